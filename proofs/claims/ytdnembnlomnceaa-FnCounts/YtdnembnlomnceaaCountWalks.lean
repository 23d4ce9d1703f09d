/- All, rising, and how often one is among others: walked. -/
import Derived.Test.YtdnembnlomnceaaOwnRows
import Derived.WalkKit
import Derived.Test.YtdnembnlomnceaaReachedPlain
import Derived.Test.YtdnembnlomnceaaAbb
namespace Go.Proofs.Ytdnembnlomnceaa
open Go.RowKit
structure CountD where
 vId : Int
 vN : Int
def CountAt (_ : World) (_ : Nat) (cs : List Value) (x : CountD) : Prop :=
 cs = [.int .i64 x.vId, .int .i64 x.vN] ∧ InI x.vId ∧ InI x.vN ∧ True
theorem CountAt_stays : Stays CountAt := fun _ _ _ _ _ _ _ h => h
def CountOwn (_ : World) (cs : List Value) (x : CountD) (fs : List Nat) : Prop :=
 cs = [.int .i64 x.vId, .int .i64 x.vN] ∧ InI x.vId ∧ InI x.vN ∧ fs = []
theorem CountOwn_stays : OwnStays CountOwn := fun _ _ _ _ _ _ h => h
theorem CountOwn_lt : OwnLt CountOwn := by
 intro w cs x fs h b hb
 obtain ⟨_, _, _, rfl⟩ := h
 cases hb
theorem CountOwn_at {lo : Nat} (w : World) (cs : List Value) (x : CountD) (fs : List Nat) (h : CountOwn w cs x fs) (_ : ∀ b ∈ fs, lo ≤ b) : CountAt w lo cs x := by
 obtain ⟨e, r0, r1, _⟩ := h
 exact ⟨e, r0, r1, trivial⟩
/-- rows of counts that a call has made, as owners of their memory -/
def cellsC (xs : List CountD) : List Value := xs.flatMap fun x => [.int .i64 x.vId, .int .i64 x.vN]
theorem cellsC_snoc (xs : List CountD) (x : CountD) : cellsC (xs ++ [x]) = cellsC xs ++ [.int .i64 x.vId, .int .i64 x.vN] := by simp [cellsC]
theorem cellsC_get : ∀ (xs : List CountD) (i : Nat) (hi : i < xs.length), (cellsC xs)[i * 2]? = some (.int .i64 xs[i].vId) ∧ (cellsC xs)[i * 2 + 1]? = some (.int .i64 xs[i].vN) := by
 intro xs
 induction xs with
 | nil => intro i hi; simp at hi
 | cons x xs ih =>
  intro i hi
  cases i with
  | zero => exact ⟨rfl, rfl⟩
  | succ i =>
   have q := ih i (by simpa using hi)
   have e : cellsC (x :: xs) = .int .i64 x.vId :: .int .i64 x.vN :: cellsC xs := rfl
   rw [e, show (i + 1) * 2 = i * 2 + 1 + 1 by omega]
   simpa only [List.getElem?_cons_succ, List.getElem_cons_succ] using q
theorem seqOwn_of_counts {w : World} {base T : Nat} {v : Value} {xs : List CountD} (h : w.ownsRow base T 2 v xs.length (cellsC xs)) (hx : ∀ x ∈ xs, InI x.vId ∧ InI x.vN) : ∃ fs, SeqOwn 2 CountOwn w v xs fs ∧ ∀ b ∈ fs, base ≤ b := by
 obtain ⟨_, ho⟩ := h
 rcases ho with ⟨rfl, hn⟩ | ⟨g, cap, cur, rfl, hg, hh, h1, h2, h3, h4⟩
 · exact ⟨[], ⟨none, 0, by rw [hn], ⟨by omega, by omega⟩, Or.inl ⟨hn, rfl⟩⟩, by simp⟩
 · refine ⟨[g], ⟨_, _, rfl, ⟨Nat.le_trans h1 h2, h1⟩, Or.inr ⟨g, 0, rfl, cur, T, xs.map fun _ => [], hh, by omega, by simp, by simp, by simp, fun i hi hi' => ⟨[.int .i64 xs[i].vId, .int .i64 xs[i].vN], rfl, fun m hm => ?_, rfl, (hx _ (List.getElem_mem hi)).1, (hx _ (List.getElem_mem hi)).2, by simp⟩⟩⟩, by simpa using hg⟩
   have q := cellsC_get xs i hi
   rw [← h4] at q
   rcases (by omega : m = 0 ∨ m = 1) with rfl | rfl
   · have e := q.1
     rw [List.getElem?_take_of_lt (by omega)] at e
     simpa using e
   · have e := q.2
     rw [List.getElem?_take_of_lt (by omega)] at e
     simpa using e
theorem countsOwn_none (w : World) : SeqOwn 2 CountOwn w (.slice none 0 0) [] [] := ⟨none, 0, rfl, ⟨by simp, by simp⟩, Or.inl ⟨rfl, rfl⟩⟩
theorem countsOwn_empty (w : World) (T : TypeId) : SeqOwn 2 CountOwn (w.alloc (.cells #[] T)) (.slice (some ⟨w.heap.size, 0, none⟩) 0 0) [] [w.heap.size] :=
 ⟨_, _, rfl, ⟨by simp, by simp⟩, Or.inr ⟨_, _, rfl, #[], T, [], (MapKept.heap_alloc w _).1, by simp, rfl, rfl, by simp, fun i hi => absurd hi (by simp)⟩⟩
end Go.Proofs.Ytdnembnlomnceaa
namespace Go.Proofs.Ytdnembnlomnceaa
open Go.RowKit
def cntE (l : List Int) (k : Int) : Nat := (l.filter fun a => decide (a = k)).length
theorem cntE_append (a b : List Int) (k : Int) : cntE (a ++ b) k = cntE a k + cntE b k := by simp [cntE, List.filter_append]
theorem cntE_le (l : List Int) (k : Int) : cntE l k ≤ l.length := List.length_filter_le _ _
theorem cntE_one (a k : Int) : cntE [a] k = if a = k then 1 else 0 := by
 unfold cntE
 by_cases h : a = k <;> simp [h]
theorem cntE_two {f g : Int → List Int} (k : Int) : ∀ (P : List Int), cntE (P.flatMap fun p => f p ++ g p) k = cntE (P.flatMap f) k + cntE (P.flatMap g) k := by
 intro P
 induction P with
 | nil => rfl
 | cons p P ih => simp only [List.flatMap_cons, cntE_append, ih]; omega
theorem pick_none {x y : Int} : ∀ (P : List Int), x ∉ P → (P.flatMap fun p => if x = p then [y] else []) = [] := by
 intro P
 induction P with
 | nil => intro _; rfl
 | cons p P ih =>
  intro h
  rw [List.flatMap_cons, if_neg (fun e => h (by rw [e]; exact List.mem_cons_self)), ih (fun q => h (List.mem_cons_of_mem _ q))]
  rfl
theorem pick_one {x y : Int} : ∀ (P : List Int), P.Nodup → x ∈ P → (P.flatMap fun p => if x = p then [y] else []) = [y] := by
 intro P
 induction P with
 | nil => intro _ h; simp at h
 | cons p P ih =>
  intro hn h
  rw [List.nodup_cons] at hn
  by_cases e : x = p
  · subst e
    rw [List.flatMap_cons, if_pos rfl, pick_none P hn.1]
    rfl
  · rw [List.flatMap_cons, if_neg e, ih hn.2 (by rcases List.mem_cons.1 h with q | q; exact absurd q e; exact q)]
    rfl
theorem holdsC_cons (a : Int × Int) (acc : List (Int × Int)) (p : Int) : holdsC (a :: acc) p = (if a.1 = p then [a.2] else []) ++ holdsC acc p := by
 unfold holdsC
 by_cases h : a.1 = p <;> simp [h]
theorem heldC_cons (a : Int × Int) (acc : List (Int × Int)) (k : Int) : heldC (a :: acc) k = (if a.2 = k then 1 else 0) + heldC acc k := by
 unfold heldC
 by_cases h : a.2 = k
 · simp [h]; omega
 · simp [h]
/-- who holds one is one of all -/
theorem held_cnt {P : List Int} (hn : P.Nodup) (k : Int) : ∀ (acc : List (Int × Int)), (∀ a ∈ acc, a.1 ∈ P) → ((cntE (P.flatMap (holdsC acc)) k : Nat) : Int) = heldC acc k := by
 intro acc
 induction acc with
 | nil =>
  intro _
  have e : ∀ (Q : List Int), Q.flatMap (holdsC []) = [] := by
   intro Q
   induction Q with
   | nil => rfl
   | cons x Q ih => rw [List.flatMap_cons, ih]; rfl
  rw [e]; rfl
 | cons a acc ih =>
  intro h
  have e : P.flatMap (holdsC (a :: acc)) = P.flatMap fun p => (if a.1 = p then [a.2] else []) ++ holdsC acc p := by
   congr 1
   funext p
   exact holdsC_cons a acc p
  have q := ih fun b hb => h b (List.mem_cons_of_mem _ hb)
  rw [e, cntE_two, pick_one P hn (h a List.mem_cons_self), cntE_one, heldC_cons, ← q]
  split <;> simp
theorem accG_from {h : HeapD} : ∀ a ∈ accG h, a.1 ∈ 0 :: idsD h := by
 intro a ha
 unfold accG accN accO at ha
 rcases List.mem_append.1 ha with q | q
 · refine List.mem_cons_of_mem _ (mem_idsD.2 ?_)
   unfold idsU
   rcases List.mem_append.1 q with q | q
   · obtain ⟨x, hx, r⟩ := List.mem_flatMap.1 q
     obtain ⟨k, _, rfl⟩ := List.mem_map.1 r
     exact List.mem_append_left _ (List.mem_map_of_mem hx)
   · obtain ⟨x, hx, r⟩ := List.mem_flatMap.1 q
     obtain ⟨k, _, rfl⟩ := List.mem_map.1 r
     exact List.mem_append_right _ (List.mem_map_of_mem hx)
 · obtain ⟨k, _, rfl⟩ := List.mem_map.1 q
   exact List.mem_cons_self
def heldL (h : HeapD) (j : Nat) : List Int := rootsD h ++ ((idsD h).take j).flatMap (edgesS h)
theorem heldL_zero (h : HeapD) : heldL h 0 = rootsD h := by simp [heldL]
theorem heldL_succ {h : HeapD} {j : Nat} (hj : j < (idsD h).length) : heldL h (j + 1) = heldL h j ++ edgesS h (idsD h)[j] := by
 unfold heldL
 rw [List.take_succ_eq_append_getElem hj, List.flatMap_append, List.append_assoc]
 simp
theorem heldL_full {h : HeapD} (e : specB h = true) (k : Int) : ((cntE (heldL h (idsD h).length) k : Nat) : Int) = heldC (accG h) k := by
 have e2 : implB h = true := spec_impl h ▸ e
 have hn : (0 :: idsD h).Nodup := List.nodup_cons.2 ⟨fun q => ids_ne_zero e2 0 q rfl, idsD_nodup (impl_idx e2)⟩
 rw [← held_cnt hn k (accG h) accG_from]
 unfold heldL
 rw [List.take_length, List.flatMap_cons, holds_roots e2]
 congr 3
 have : ∀ (Q : List Int), (∀ x ∈ Q, x ∈ idsD h) → Q.flatMap (edgesS h) = Q.flatMap (holdsC (accG h)) := by
  intro Q
  induction Q with
  | nil => intro _; rfl
  | cons x Q ih =>
   intro hq
   rw [List.flatMap_cons, List.flatMap_cons, ih (fun y hy => hq y (List.mem_cons_of_mem _ hy)), holds_edges e2 (ids_ne_zero e2 x (hq x List.mem_cons_self))]
 exact this _ fun _ q => q
theorem heldL_len {h : HeapD} (e : specB h = true) (hs : h.small) (j : Nat) : (heldL h j).length ≤ 36700160 := by
 have h1 : (((idsD h).take j).flatMap (edgesS h)).length ≤ ((idsD h).take j).length * 1048578 := flat_lenG _ fun x _ => edges_most e hs x
 have h2 : ((idsD h).take j).length ≤ 32 := by have := idsD_most e; rw [List.length_take]; omega
 have h3 : h.vGlobals.length ≤ 1048576 := hs.2.2.1.1
 simp only [heldL, List.length_append, rootsD, List.length_cons, List.length_map]
 omega
theorem heldL_in {h : HeapD} (e : specB h = true) (j : Nat) : ∀ x ∈ heldL h j, x ∈ idsD h := by
 intro x hx
 unfold heldL at hx
 rcases List.mem_append.1 hx with q | q
 · exact roots_there e x q
 · obtain ⟨y, hy, r⟩ := List.mem_flatMap.1 q
   exact edges_there e (List.mem_of_mem_take hy) x r
/-- all, rising -/
def AllInv (h : HeapD) (out : List Int) (j : Nat) : Prop := Rises out ∧ (∀ k, k ∈ out ↔ k ∈ (idsU h).take j) ∧ out.length = j
theorem AllInv.start (h : HeapD) : AllInv h [] 0 := ⟨List.Pairwise.nil, by simp, rfl⟩
theorem take_not {xs : List Int} (hn : xs.Nodup) {j : Nat} (hj : j < xs.length) : xs[j] ∉ xs.take j := fun q => by
 obtain ⟨i, hi, e⟩ := List.mem_iff_getElem.1 q
 rw [List.getElem_take] at e
 have hi' : i < j := by rw [List.length_take] at hi; omega
 have := nodup_inj hn i j (by omega) hj e
 omega
theorem AllInv.step {h : HeapD} {out : List Int} {j : Nat} (hn : (idsU h).Nodup) (hI : AllInv h out j) (hj : j < (idsU h).length) : hasB out (idsU h)[j] = false ∧ AllInv h (insR out (idsU h)[j]) (j + 1) := by
 obtain ⟨h1, h2, h3⟩ := hI
 have hno : (idsU h)[j] ∉ out := fun q => take_not hn hj ((h2 _).1 q)
 refine ⟨?_, insR_rises _ _ h1 hno, fun k => ?_, by rw [insR_len, h3]⟩
 · cases hb : hasB out (idsU h)[j]
   · rfl
   · exact absurd ((hasB_iff _ _).1 hb) hno
 · rw [insR_mem, h2, List.take_succ_eq_append_getElem hj, List.mem_append, List.mem_singleton]
   exact or_comm
theorem AllInv.done {h : HeapD} {out : List Int} (hn : (idsU h).Nodup) (hI : AllInv h out (idsU h).length) : out = idsD h := by
 obtain ⟨h1, h2, h3⟩ := hI
 obtain ⟨r1, r2⟩ := sortI_rises hn
 refine rises_same _ _ h1 r1 fun k => ?_
 rw [h2, List.take_length]
 exact (r2 k).symm
theorem idsU_node {h : HeapD} {j : Nat} (hj : j < h.vNodes.length) : ∃ hj' : j < (idsU h).length, (idsU h)[j] = h.vNodes[j].vId := by
 refine ⟨by simp [idsU]; omega, ?_⟩
 simp only [idsU]
 rw [List.getElem_append_left (by simpa using hj), List.getElem_map]
theorem idsU_obj {h : HeapD} {j : Nat} (hj : j < h.vObjs.length) : ∃ hj' : h.vNodes.length + j < (idsU h).length, (idsU h)[h.vNodes.length + j] = h.vObjs[j].vId := by
 refine ⟨by simp [idsU]; omega, ?_⟩
 simp only [idsU]
 rw [List.getElem_append_right (by simp), List.getElem_map]
 simp
def countD (h : HeapD) : List CountD := (idsD h).map fun k => ⟨k, heldC (accG h) k⟩
def countsD (h : HeapD) : List CountD := if specB h then countD h else []
theorem countD_in {w : World} {lo : Nat} {cs : List Value} {h : HeapD} (hh : HeapAt w lo cs h) (e : specB h = true) (hs : h.small) : ∀ x ∈ countD h, InI x.vId ∧ InI x.vN := by
 intro x hx
 obtain ⟨k, hk, rfl⟩ := List.mem_map.1 hx
 refine ⟨idsD_in hh k hk, ?_⟩
 have q := heldC_le (accG h) k
 have := accG_len e hs
 show InI (heldC (accG h) k)
 unfold InI
 omega
theorem countD_step {h : HeapD} {j : Nat} (hj : j < (idsD h).length) : (countD h).take (j + 1) = (countD h).take j ++ [⟨(idsD h)[j], heldC (accG h) (idsD h)[j]⟩] := by
 have hj' : j < (countD h).length := by simpa [countD] using hj
 rw [List.take_succ_eq_append_getElem hj']
 simp [countD]
end Go.Proofs.Ytdnembnlomnceaa
namespace Go.Proofs.Ytdnembnlomnceaa
open Go.RowKit
set_option maxRecDepth 100000 in
set_option maxHeartbeats 2000000 in
theorem l5All_any {w : World} {lo : Nat} {cs : List Value} {h : HeapD} (hh : HeapAt w lo cs h) (hp : specB h = true) :
 Calls Try.prog 59 #[.agg cs.toArray] w fun e w' => (∃ v, e = .returned v ∧ w'.ownsRow w.heap.size 2 1 v (idsD h).length ((idsD h).map fun n => .int .i64 n)) ∧ Below w.heap.size w w' := by
 have hin : Hid (∀ x ∈ idsD h, InI x) := idsD_in hh
 have hnd : Hid ((idsU h).Nodup) := idsU_nodup (impl_idx (spec_impl h ▸ hp))
 have hnl : h.vNodes.length ≤ 16 := (spec_parts hp).1
 have hol' : h.vObjs.length ≤ 16 := objs_most hp
 obtain ⟨k2, k3, k4, rfl, s2, s3, s4, rNext, rDoc, _⟩ := hh
 obtain ⟨a4, cap4, rfl⟩ := s4.form
 obtain ⟨a2, cap2, rfl, hm2, hx2⟩ := s2
 obtain ⟨a3, cap3, rfl, hm3, hx3⟩ := s3
 have hx2' : Hid _ := hx2
 have hx3' : Hid _ := hx3
 clear hx2 hx3 s4 rNext rDoc hm2 hm3 hp
 have hb2 : Below w.heap.size w ((w.alloc (.cells (List.toArray (cHp h a2 cap2 a3 cap3 a4 cap4)) 28)).alloc (.cells #[] 2)) := ((Below.refl _ _).alloc (Nat.le_refl _) _).alloc (by simp) _
 have bH0 : Hid (Box ((w.alloc (.cells (List.toArray (cHp h a2 cap2 a3 cap3 a4 cap4)) 28)).alloc (.cells #[] 2)) w.heap.size (cHp h a2 cap2 a3 cap3 a4 cap4) 28) := (Box.new w (cHp h a2 cap2 a3 cap3 a4 cap4) 28).alloc _
 have hr0 : Hid (((w.alloc (.cells (List.toArray (cHp h a2 cap2 a3 cap3 a4 cap4)) 28)).alloc (.cells #[] 2)).ownsRow (w.heap.size + 1) 2 1 (.slice (some ⟨w.heap.size + 1, 0, none⟩) 0 0) 0 []) := by
  have q := row_start (w := (w.alloc (.cells (List.toArray (cHp h a2 cap2 a3 cap3 a4 cap4)) 28))) (B := w.heap.size + 1) (by simp)
  simpa only [World.size_alloc, Hid] using q
 go_enter Try.func59, Try.ntmps59
 go_wp2_with fail
 go_loopw [3, 4] (fun v i wr => ∃ (j : Nat) (out : List Int), j ≤ h.vNodes.length ∧ i = .int .i64 j ∧ Hid (AllInv h out (j)) ∧ Hid (wr.ownsRow (w.heap.size + 1) 2 1 v out.length (out.map fun n => .int .i64 n)) ∧ Hid (∃ a cap, v = .slice a out.length cap) ∧ Hid (Box wr w.heap.size (cHp h a2 cap2 a3 cap3 a4 cap4) 28) ∧ Below w.heap.size w wr) (fun _ i _ => h.vNodes.length - (intOf i).toNat)
 case atStart => exact ⟨0, [], by omega, rfl, AllInv.start h, hr0, ⟨_, _, rfl⟩, bH0, hb2⟩
 case round =>
  clear hr0 bH0 hb2
  obtain ⟨j, out, hj, rfl, hinv, hown, hform, bHr, hbr⟩ := hrel
  obtain ⟨gv, capv, rfl⟩ := hform.out
  clear hform
  have hzr : w.heap.size + 1 ≤ wr.heap.size := bHr.out.lt
  have c2 := bHr.out.cell 2 rfl
  by_cases hlt : j < h.vNodes.length
  · obtain ⟨bf, offf, rfl, hlof, hbwf, hcf⟩ := hx2'.out (by omega)
    obtain ⟨csf, hclf, lief, hrf⟩ := hcf j hlt
    have lief1 := Lie.keep (lo := lo) (lo' := lo) lief (.of_below hbr) hlof hbwf
    obtain ⟨hj', hid⟩ := idsU_node hlt
    obtain ⟨hno, hinv2⟩ := hinv.out.step hnd.out hj'
    rw [hid] at hno hinv2
    have hno' : Hid (hasB out h.vNodes[j].vId = false) := hno
    have hinv' : Hid (AllInv h (insR out h.vNodes[j].vId) (j + 1)) := hinv2
    generalize hF : h.vNodes[j] = Fd at hrf hno' hinv'
    obtain ⟨_, _, rfl, _⟩ := hrf
    have y0 := lie_at lief1 0 rfl
    simp only [Nat.add_zero] at y0
    have hol : out.length ≤ 2097152 := by have := hinv.out.2.2; omega
    have hIo : Hid (∀ x ∈ out, InI x) := fun x hx => hin.out x (mem_idsD.2 (List.mem_of_mem_take ((hinv.out.2.1 x).1 hx)))
    have hsq : Hid (SeqAt 1 IntAt wr 0 (.slice gv out.length capv) out) := row_seq hown.out hIo.out
    have hlt' : (j : Int) < (h.vNodes.length : Int) := by omega
    clear hF lief lief1 hclf hcf hid hno hinv2
    go_wp2_with fail
    refine (l5Put_any hsq.out (by have := hinv.out.2.2; omega) hno'.out).mono ?_
    rintro e w2 ⟨⟨g2, cap2', rfl, hown2⟩, hb2⟩
    have hbr2 : Below w.heap.size w w2 := hbr.trans (hb2.mono hbr.size)
    have bH2 : Hid _ := bHr.out.below hb2 (by omega)
    have hr2 : Hid (w2.ownsRow (w.heap.size + 1) 2 1 (.slice (some ⟨g2, 0, none⟩) (out.length + 1) cap2') (insR out Fd.vId).length ((insR out Fd.vId).map fun n => .int .i64 n)) := by rw [insR_len]; exact World.ownsRow.mono hown2 (by omega)
    clear hown2 hb2
    go_wp2_with fail
    go_roundw
    case rel => exact ⟨j + 1, insR out Fd.vId, by omega, by go_num, by have q := hinv'.out; first | exact q | (rw [Nat.add_assoc] at q; exact q), hr2, ⟨_, _, by rw [insR_len]⟩, bH2, hbr2⟩
    case measure => simp [intOf]; omega
  obtain rfl : j = h.vNodes.length := by omega
  go_wp2_with fail
  go_loopw [3, 5] (fun v i wr => ∃ (j : Nat) (out : List Int), j ≤ h.vObjs.length ∧ i = .int .i64 j ∧ Hid (AllInv h out (h.vNodes.length + j)) ∧ Hid (wr.ownsRow (w.heap.size + 1) 2 1 v out.length (out.map fun n => .int .i64 n)) ∧ Hid (∃ a cap, v = .slice a out.length cap) ∧ Hid (Box wr w.heap.size (cHp h a2 cap2 a3 cap3 a4 cap4) 28) ∧ Below w.heap.size w wr) (fun _ i _ => h.vObjs.length - (intOf i).toNat)
  case atStart => exact ⟨0, out, by omega, rfl, hinv, hown, ⟨_, _, rfl⟩, bHr, hbr⟩
  case round =>
   clear hinv hown bHr hbr hzr
   obtain ⟨j, out, hj, rfl, hinv, hown, hform, bHr, hbr⟩ := hrel
   obtain ⟨gv, capv, rfl⟩ := hform.out
   clear hform
   have hzr : w.heap.size + 1 ≤ wr.heap.size := bHr.out.lt
   have c3 := bHr.out.cell 3 rfl
   by_cases hlt : j < h.vObjs.length
   · obtain ⟨bf, offf, rfl, hlof, hbwf, hcf⟩ := hx3'.out (by omega)
     obtain ⟨csf, hclf, lief, hrf⟩ := hcf j hlt
     have lief1 := Lie.keep (lo := lo) (lo' := lo) lief (.of_below hbr) hlof hbwf
     obtain ⟨hj', hid⟩ := idsU_obj hlt
     obtain ⟨hno, hinv2⟩ := hinv.out.step hnd.out hj'
     rw [hid] at hno hinv2
     have hno' : Hid (hasB out h.vObjs[j].vId = false) := hno
     have hinv' : Hid (AllInv h (insR out h.vObjs[j].vId) (h.vNodes.length + j + 1)) := hinv2
     generalize hF : h.vObjs[j] = Fd at hrf hno' hinv'
     obtain ⟨_, rfl, _⟩ := hrf
     have y0 := lie_at lief1 0 rfl
     simp only [Nat.add_zero] at y0
     have hol : out.length ≤ 2097152 := by have := hinv.out.2.2; omega
     have hIo : Hid (∀ x ∈ out, InI x) := fun x hx => hin.out x (mem_idsD.2 (List.mem_of_mem_take ((hinv.out.2.1 x).1 hx)))
     have hsq : Hid (SeqAt 1 IntAt wr 0 (.slice gv out.length capv) out) := row_seq hown.out hIo.out
     have hlt' : (j : Int) < (h.vObjs.length : Int) := by omega
     clear hF lief lief1 hclf hcf hid hno hinv2
     go_wp2_with fail
     refine (l5Put_any hsq.out (by have := hinv.out.2.2; omega) hno'.out).mono ?_
     rintro e w2 ⟨⟨g2, cap2', rfl, hown2⟩, hb2⟩
     have hbr2 : Below w.heap.size w w2 := hbr.trans (hb2.mono hbr.size)
     have bH2 : Hid _ := bHr.out.below hb2 (by omega)
     have hr2 : Hid (w2.ownsRow (w.heap.size + 1) 2 1 (.slice (some ⟨g2, 0, none⟩) (out.length + 1) cap2') (insR out Fd.vId).length ((insR out Fd.vId).map fun n => .int .i64 n)) := by rw [insR_len]; exact World.ownsRow.mono hown2 (by omega)
     clear hown2 hb2
     go_wp2_with fail
     go_roundw
     case rel => exact ⟨j + 1, insR out Fd.vId, by omega, by go_num, by have q := hinv'.out; first | exact q | (rw [Nat.add_assoc] at q; exact q), hr2, ⟨_, _, by rw [insR_len]⟩, bH2, hbr2⟩
     case measure => simp [intOf]; omega
   obtain rfl : j = h.vObjs.length := by omega
   have HD : Hid (out = idsD h) := AllInv.done hnd.out (by have q := hinv.out; have e : (idsU h).length = h.vNodes.length + h.vObjs.length := (by simp [idsU]); rw [e]; exact q)
   have hown9 : Hid (wr.ownsRow (w.heap.size + 1) 2 1 (.slice gv out.length capv) out.length (out.map fun n => .int .i64 n)) := hown
   clear hinv hown
   go_wp2_with fail
   go_ret
   exact ⟨⟨_, rfl, by have q := hown9.out; rw [HD.out] at q ⊢; exact World.ownsRow.mono q (by omega)⟩, hbr⟩
set_option maxRecDepth 100000 in
set_option maxHeartbeats 2000000 in
theorem l5Count_any {w : World} {lo : Nat} {k : Value} {xs : List Int} {id : Int} (hk : SeqAt 1 IntAt w lo k xs) (hl : xs.length ≤ 1099511627) :
 Calls Try.prog 61 #[k, .int .i64 id] w fun e w' => e = .returned (.int .i64 (cntE xs id : Nat)) ∧ w' = w := by
 obtain ⟨a, cap, rfl, hm, hx⟩ := hk
 have hx' : Hid _ := hx
 clear hx hm
 go_enter Try.func61, Try.ntmps61
 go_wp2_with fail
 go_loop [5, 6] (fun n i => ∃ (j : Nat), j ≤ xs.length ∧ i = .int .i64 j ∧ n = .int .i64 (cntE (xs.take j) id : Nat)) (fun _ i => xs.length - (intOf i).toNat)
 case atStart => exact ⟨0, by omega, rfl, by simp [cntE]⟩
 case round =>
  obtain ⟨j, hj, rfl, rfl⟩ := hrel
  have hC1 : Hid (cntE (xs.take j) id ≤ j) := by show _ ≤ _; have := cntE_le (xs.take j) id; rw [List.length_take] at this; omega
  by_cases hlt : j < xs.length
  · obtain ⟨b, off, rfl, hlo, hbw, hc⟩ := hx'.out (by omega)
    obtain ⟨cs, hcl, lie, hr⟩ := hc j hlt
    have hstep : Hid (cntE (xs.take (j + 1)) id = cntE (xs.take j) id + if xs[j] = id then 1 else 0) := by show _ = _; rw [List.take_succ_eq_append_getElem hlt, cntE_append, cntE_one]
    generalize xs[j] = X at hr hstep
    generalize hG : cntE (xs.take j) id = G at hstep hC1
    have hGj : G ≤ j := hC1.out
    obtain ⟨rfl, hI2⟩ := hr
    have z0 := lie 0 (by simp)
    simp only [List.getElem?_cons_zero, Nat.add_zero, Nat.mul_one] at z0
    have hlt' : (j : Int) < (xs.length : Int) := by omega
    clear lie hcl hx' hc hG hC1
    by_cases he : X = id
    · rw [if_pos he] at hstep
      have he' : (X == id) = true := by simpa using he
      go_wp2_with fail
      go_round
      case rel => exact ⟨j + 1, by omega, by go_num, by rw [hstep.out]; go_num⟩
      case measure => simp [intOf]; omega
    · rw [if_neg he] at hstep
      have he' : (X == id) = false := by simpa using he
      go_wp2_with fail
      go_round
      case rel => exact ⟨j + 1, by omega, by go_num, by rw [hstep.out]; rfl⟩
      case measure => simp [intOf]; omega
  obtain rfl : j = xs.length := by omega
  go_wp2_with fail
  go_ret
  exact ⟨rfl, rfl⟩
end Go.Proofs.Ytdnembnlomnceaa
