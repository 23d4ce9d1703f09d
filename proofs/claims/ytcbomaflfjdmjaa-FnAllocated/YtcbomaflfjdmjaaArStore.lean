/- Stored of the specification and of the program, walked. -/
import Derived.Test.YtcbomaflfjdmjaaArAllocI
import Derived.Test.YtcbomaflfjdmjaaArDeref
import Derived.Deep.Cut
namespace Go.Proofs.Ytcbomaflfjdmjaa
open Go.RowKit
def AnsAB (w w' : World) (r : ArenaD × Bool) (e : Ending) : Prop := ∃ cs, e = .returned (.tuple #[.agg cs.toArray, .bool r.2]) ∧ AnsA w w' cs r.1
/-- what Stored answers -/
noncomputable def storedD (x : ArenaD) (hAt hGen : Int) (dt : ByteArray) : ArenaD × Bool :=
  if liveB x hAt hGen && wordB 10 dt then
    match x.vSlots[hAt.toNat]? with
    | none => (nilA, false)
    | some s => (⟨x.vSlots.set hAt.toNat ⟨s.vGen, s.vUsed, dt⟩, x.vFree⟩, true)
  else (nilA, false)
theorem storedD_dead {x : ArenaD} {a g : Int} {dt : ByteArray} (h : liveB x a g = false) : storedD x a g dt = (nilA, false) := by simp [storedD, h]
theorem storedD_word {x : ArenaD} {a g : Int} {dt : ByteArray} (h : wordB 10 dt = false) : storedD x a g dt = (nilA, false) := by simp [storedD, h]
theorem storedD_yes {x : ArenaD} {a g : Int} {dt : ByteArray} (h1 : liveB x a g = true) (h2 : wordB 10 dt = true) (h4 : a.toNat < x.vSlots.length) : storedD x a g dt = (⟨x.vSlots.set a.toNat ⟨x.vSlots[a.toNat].vGen, x.vSlots[a.toNat].vUsed, dt⟩, x.vFree⟩, true) := by
  unfold storedD; rw [h1, h2]; simp [List.getElem?_eq_getElem h4]
theorem storedD_few (x : ArenaD) (a g : Int) (dt : ByteArray) : (storedD x a g dt).1.vSlots.length ≤ 12 ∧ (storedD x a g dt).1.vFree.length ≤ 12 := by
  unfold storedD
  cases hl : liveB x a g with
  | false => simp [nilA]
  | true =>
    have h := (liveB_iff.1 hl).1
    have h1 := h.2.1
    have h2 := h.2.2.1
    cases wordB 10 dt with
    | false => simp [nilA]
    | true =>
      simp only [Bool.and_self, if_true]
      split
      · simp [nilA]
      · simp; omega
set_option maxRecDepth 100000 in
set_option maxHeartbeats 4000000 in
theorem specStored_any {w : World} {lo : Nat} {cs : List Value} {x : ArenaD} {hAt hGen : Int} {dt : ByteArray} (hx : ArenaAt w lo cs x) (hd : dt.size ≤ maxLen) :
    Calls Try.prog 23 #[.agg cs.toArray, .agg #[.int .i64 hAt, .int .i64 hGen], .string dt] w fun e w' => AnsAB w w' (storedD x hAt hGen dt) e ∧ Below w.heap.size w w' := by
  have hx' : Hid (ArenaAt w lo cs x) := hx
  obtain ⟨k0, k1, rfl, s0, s1, _⟩ := hx
  obtain ⟨a0, c0, rfl⟩ := s0.form
  obtain ⟨a1, c1, rfl⟩ := s1.form
  clear s0 s1
  have hdt : Hid (dt.size ≤ maxLen) := hd
  clear hd
  have hb0 : Below w.heap.size w (((w.alloc (.cells (List.toArray [.slice a0 x.vSlots.length c0, .slice a1 x.vFree.length c1]) 27)).alloc (.cells (List.toArray [.int .i64 hAt, .int .i64 hGen]) 31)).alloc (.cells (List.toArray [.slice none 0 0, .slice none 0 0]) 27)) := (((Below.refl _ _).alloc (Nat.le_refl _) _).alloc (by simp) _).alloc (by simp; omega) _
  have bA0 : Hid (Box (((w.alloc (.cells (List.toArray [.slice a0 x.vSlots.length c0, .slice a1 x.vFree.length c1]) 27)).alloc (.cells (List.toArray [.int .i64 hAt, .int .i64 hGen]) 31)).alloc (.cells (List.toArray [.slice none 0 0, .slice none 0 0]) 27)) w.heap.size [.slice a0 x.vSlots.length c0, .slice a1 x.vFree.length c1] 27) := ((Box.new w _ _).alloc _).alloc _
  have bH0 : Hid (Box (((w.alloc (.cells (List.toArray [.slice a0 x.vSlots.length c0, .slice a1 x.vFree.length c1]) 27)).alloc (.cells (List.toArray [.int .i64 hAt, .int .i64 hGen]) 31)).alloc (.cells (List.toArray [.slice none 0 0, .slice none 0 0]) 27)) (w.heap.size + 1) [.int .i64 hAt, .int .i64 hGen] 31) := by have h5 := (Box.new (w.alloc (.cells (List.toArray [.slice a0 x.vSlots.length c0, .slice a1 x.vFree.length c1]) 27)) [.int .i64 hAt, .int .i64 hGen] 31).alloc (.cells (List.toArray [.slice none 0 0, .slice none 0 0]) 27); simpa [Hid] using h5
  have bR0 : Hid (Box (((w.alloc (.cells (List.toArray [.slice a0 x.vSlots.length c0, .slice a1 x.vFree.length c1]) 27)).alloc (.cells (List.toArray [.int .i64 hAt, .int .i64 hGen]) 31)).alloc (.cells (List.toArray [.slice none 0 0, .slice none 0 0]) 27)) (w.heap.size + 1 + 1) [.slice none 0 0, .slice none 0 0] 27) := by have h5 := Box.new ((w.alloc (.cells (List.toArray [.slice a0 x.vSlots.length c0, .slice a1 x.vFree.length c1]) 27)).alloc (.cells (List.toArray [.int .i64 hAt, .int .i64 hGen]) 31)) [.slice none 0 0, .slice none 0 0] 27; simpa [Hid] using h5
  have hxA : Hid (ArenaAt (((w.alloc (.cells (List.toArray [.slice a0 x.vSlots.length c0, .slice a1 x.vFree.length c1]) 27)).alloc (.cells (List.toArray [.int .i64 hAt, .int .i64 hGen]) 31)).alloc (.cells (List.toArray [.slice none 0 0, .slice none 0 0]) 27)) lo [.slice a0 x.vSlots.length c0, .slice a1 x.vFree.length c1] x) := ArenaAt_stays _ _ _ lo _ _ (.of_below hb0) hx'.out
  have hno : Hid (∀ w2 : World, AnsAB w w2 (nilA, false) (.returned (.tuple #[.agg #[.slice none 0 0, .slice none 0 0], .bool false]))) := fun w2 => ⟨[.slice none 0 0, .slice none 0 0], rfl, ansNil⟩
  go_enter Try.func23, Try.ntmps23
  go_wp2_with fail
  refine (l11Live_any hxA.out).mono ?_
  rintro e w1 ⟨rfl, hb1⟩
  have hB1 : Below w.heap.size w w1 := hb0.trans (hb1.mono hb0.size)
  have bA1 : Hid (Box w1 w.heap.size [.slice a0 x.vSlots.length c0, .slice a1 x.vFree.length c1] 27) := bA0.out.below hb1 bA0.out.lt
  have bH1 : Hid (Box w1 (w.heap.size + 1) [.int .i64 hAt, .int .i64 hGen] 31) := bH0.out.below hb1 bH0.out.lt
  have bR1 : Hid (Box w1 (w.heap.size + 1 + 1) [.slice none 0 0, .slice none 0 0] 27) := bR0.out.below hb1 bR0.out.lt
  have y0 := bA1.out.cell 0 rfl
  have y1 := bA1.out.cell 1 rfl
  have q0 := bR1.out.cell 0 rfl
  have q1 := bR1.out.cell 1 rfl
  have qu := bR1.out.unfrozen
  cases hL : liveB x hAt hGen with
  | false =>
    have HD : Hid _ := storedD_dead (dt := dt) hL
    go_wp2_with fail
    have bRf : Hid (Box (putCells w1 (w.heap.size + 1 + 1) 0 [.slice none 0 0, .slice none 0 0]) (w.heap.size + 1 + 1) [.slice none 0 0, .slice none 0 0] 27) := (bR1.out.set _).set _
    have e0_ := bRf.out.cell 0 rfl
    have e1_ := bRf.out.cell 1 rfl
    simp only [putCells, Nat.zero_add] at e0_ e1_
    have hBf : Hid (Below w.heap.size w (putCells w1 (w.heap.size + 1 + 1) 0 [.slice none 0 0, .slice none 0 0])) := putCells_below _ _ _ _ _ _ (by omega) hB1
    have hKf : Hid (∀ b, b ≠ w.heap.size + 1 + 1 → (putCells w1 (w.heap.size + 1 + 1) 0 [.slice none 0 0, .slice none 0 0]).heap[b]? = (World.heap w1)[b]?) := fun b n1 => putCells_other _ _ _ _ _ n1
    refine bodyPost_ret (v := .tuple #[.agg (List.toArray [.slice none 0 0, .slice none 0 0]), .bool false]) (by simp [results, Try.results23, go_sem, e0_, e1_]) rfl ⟨by rw [HD.out]; exact hno.out _, hBf.out⟩
  | true =>
  go_wp2_with fail
  refine (l8Plain_any _ _ _ hdt.out).mono ?_
  rintro e w1_ ⟨rfl, rfl⟩
  cases hW : wordB 10 dt with
  | false =>
    have HD : Hid _ := storedD_word (x := x) (a := hAt) (g := hGen) hW
    go_wp2_with fail
    have bRf : Hid (Box (putCells w1_ (w.heap.size + 1 + 1) 0 [.slice none 0 0, .slice none 0 0]) (w.heap.size + 1 + 1) [.slice none 0 0, .slice none 0 0] 27) := (bR1.out.set _).set _
    have e0_ := bRf.out.cell 0 rfl
    have e1_ := bRf.out.cell 1 rfl
    simp only [putCells, Nat.zero_add] at e0_ e1_
    have hBf : Hid (Below w.heap.size w (putCells w1_ (w.heap.size + 1 + 1) 0 [.slice none 0 0, .slice none 0 0])) := putCells_below _ _ _ _ _ _ (by omega) hB1
    have hKf : Hid (∀ b, b ≠ w.heap.size + 1 + 1 → (putCells w1_ (w.heap.size + 1 + 1) 0 [.slice none 0 0, .slice none 0 0]).heap[b]? = (World.heap w1_)[b]?) := fun b n1 => putCells_other _ _ _ _ _ n1
    refine bodyPost_ret (v := .tuple #[.agg (List.toArray [.slice none 0 0, .slice none 0 0]), .bool false]) (by simp [results, Try.results23, go_sem, e0_, e1_]) rfl ⟨by rw [HD.out]; exact hno.out _, hBf.out⟩
  | true =>
  obtain ⟨hy0, hi0, hp1, _⟩ := liveB_iff.1 hL
  have hn2 : x.vSlots.length ≤ 12 := hy0.2.1
  have hn3 : x.vFree.length ≤ 12 := by have := hy0.2.2.1; omega
  have HD0 := storedD_yes hL hW hp1
  obtain ⟨p, rfl⟩ : ∃ p : Nat, hAt = (p : Int) := ⟨hAt.toNat, by omega⟩
  simp only [Int.toNat_natCast] at hp1 HD0
  have HD : Hid _ := HD0
  have hp2 : (p : Int) < (x.vSlots.length : Int) := by omega
  clear HD0 hy0
  go_wp2_with fail
  refine (l11Copy_any (ArenaAt_stays _ _ _ lo _ _ (.of_below hb1) hxA.out) hn2 hn3).mono ?_
  rintro e w2 ⟨⟨csc, rfl, fs, hown, hnd, hlw⟩, hb2⟩
  have hB2 : Below w.heap.size w w2 := hB1.trans (hb2.mono hB1.size)
  have bH2 : Hid (Box w2 (w.heap.size + 1) [.int .i64 (p : Int), .int .i64 hGen] 31) := bH1.out.below hb2 bH1.out.lt
  have bR2 : Hid (Box w2 (w.heap.size + 1 + 1) [.slice none 0 0, .slice none 0 0] 27) := bR1.out.below hb2 bR1.out.lt
  obtain ⟨kS, kF, f0, f1, rfl, oS0, oF0, rfl⟩ := hown
  have hap : Hid (∀ b ∈ f0, b ∉ f1) := fun b m1 m2 => (List.nodup_append.1 hnd).2.2 b m1 b m2 rfl
  have hlS : Hid (∀ b ∈ f0, w1_.heap.size ≤ b ∧ b < w2.heap.size) := fun b m => ⟨hlw b (List.mem_append_left _ m), oS0.lt SlotOwn_lt b m⟩
  have hlF : Hid (∀ b ∈ f1, w1_.heap.size ≤ b ∧ b < w2.heap.size) := fun b m => ⟨hlw b (List.mem_append_right _ m), oF0.lt intOwn_lt b m⟩
  obtain ⟨pS, dS, rfl⟩ := oS0.form
  obtain ⟨pF, dF, rfl⟩ := oF0.form
  obtain ⟨bS, oS, C, Tt, csS, fj, rfl, hrow, hcl, ⟨mB, mN, _, _⟩, hr, hclose⟩ := oS0.step SlotOwn_stays SlotOwn_lt hp1
  have oFh : Hid (SeqOwn 1 IntOwn w2 (.slice pF x.vFree.length dF) x.vFree f1) := oF0
  have hrange : Hid (InI x.vSlots[p].vGen ∧ x.vSlots[p].vData.size ≤ maxLen) := ⟨hr.2.1, hr.2.2.1⟩
  have hclose' : Hid _ := hclose
  obtain ⟨rfl, _, _, rfl⟩ := hr
  have hrow' : Hid (RowIs w2 bS (oS + p * 3) C Tt [.int .i64 x.vSlots[p].vGen, .bool x.vSlots[p].vUsed, .string x.vSlots[p].vData]) := hrow
  have hS1 := (hlS.out bS mB).1
  have hS2 := (hlS.out bS mB).2
  have hlt2 : w1_.heap.size ≤ w2.heap.size := hb2.size
  have hz1 : w.heap.size + 1 + 1 < w1_.heap.size := bR1.out.lt
  clear hrow hclose oF0 oS0 hnd hlw mN hcl
  have bT : Hid (Box (w2.alloc (.cells (List.toArray [.slice (some ⟨bS, oS, none⟩) x.vSlots.length dS, .slice pF x.vFree.length dF]) 27)) w2.heap.size [.slice (some ⟨bS, oS, none⟩) x.vSlots.length dS, .slice pF x.vFree.length dF] 27) := Box.new w2 _ _
  have rowT : Hid (RowIs (w2.alloc (.cells (List.toArray [.slice (some ⟨bS, oS, none⟩) x.vSlots.length dS, .slice pF x.vFree.length dF]) 27)) bS (oS + p * 3) C Tt [.int .i64 x.vSlots[p].vGen, .bool x.vSlots[p].vUsed, .string x.vSlots[p].vData]) := hrow'.out.below ((Below.refl _ _).alloc (Nat.le_refl _) _)
  have bHT : Hid (Box (w2.alloc (.cells (List.toArray [.slice (some ⟨bS, oS, none⟩) x.vSlots.length dS, .slice pF x.vFree.length dF]) 27)) (w.heap.size + 1) [.int .i64 (p : Int), .int .i64 hGen] 31) := bH2.out.alloc _
  have bRT : Hid (Box (w2.alloc (.cells (List.toArray [.slice (some ⟨bS, oS, none⟩) x.vSlots.length dS, .slice pF x.vFree.length dF]) 27)) (w.heap.size + 1 + 1) [.slice none 0 0, .slice none 0 0] 27) := bR2.out.alloc _
  have hBT : Below w2.heap.size w2 (w2.alloc (.cells (List.toArray [.slice (some ⟨bS, oS, none⟩) x.vSlots.length dS, .slice pF x.vFree.length dF]) 27)) := (Below.refl _ _).alloc (Nat.le_refl _) _
  go_upto_region 4 with fail
  generalize (w2.alloc (.cells (List.toArray [.slice (some ⟨bS, oS, none⟩) x.vSlots.length dS, .slice pF x.vFree.length dF]) 27)) = wt at bT rowT bHT bRT hBT ⊢
  have t0 := bT.out.cell 0 rfl
  have t1 := bT.out.cell 1 rfl
  have h0_ := bHT.out.cell 0 rfl
  have x2_ := rowT.out.cell 2 rfl
  have xu_ := rowT.out.unfrozen
  have hO4 : Out [bS] w2 (wt.setCell ⟨bS, oS + p * 3 + 2, none⟩ (.string dt)) := (Out.of_below hBT).set (by simp) _
  have bT4 : Hid (Box (wt.setCell ⟨bS, oS + p * 3 + 2, none⟩ (.string dt)) w2.heap.size [.slice (some ⟨bS, oS, none⟩) x.vSlots.length dS, .slice pF x.vFree.length dF] 27) := bT.out.other (by omega) _
  have bR4 : Hid (Box (wt.setCell ⟨bS, oS + p * 3 + 2, none⟩ (.string dt)) (w.heap.size + 1 + 1) [.slice none 0 0, .slice none 0 0] 27) := bRT.out.other (by omega) _
  have r40 := bR4.out.cell 0 rfl
  have r41 := bR4.out.cell 1 rfl
  have r4u := bR4.out.unfrozen
  have t40 := bT4.out.cell 0 rfl
  have t41 := bT4.out.cell 1 rfl
  have row4 : RowIs (wt.setCell ⟨bS, oS + p * 3 + 2, none⟩ (.string dt)) bS (oS + p * 3) C Tt [.int .i64 x.vSlots[p].vGen, .bool x.vSlots[p].vUsed, .string dt] := rowT.out.set (m := 2) (by simp) _
  have hSeqS := hclose'.out _ [.int .i64 x.vSlots[p].vGen, .bool x.vSlots[p].vUsed, .string dt] ⟨x.vSlots[p].vGen, x.vSlots[p].vUsed, dt⟩ rfl row4 hO4 ⟨rfl, hrange.out.1, hdt.out, rfl⟩
  have hSeqF : SeqOwn 1 IntOwn (wt.setCell ⟨bS, oS + p * 3 + 2, none⟩ (.string dt)) (.slice pF x.vFree.length dF) x.vFree f1 := oFh.out.stays intOwn_stays (fun b m => hO4.keep (hlF.out b m).2 (by simp; intro e; exact hap.out bS mB (e ▸ m)))
  have hans : Hid (∀ w', (∀ b, b ≠ w.heap.size + 1 + 1 → w'.heap[b]? = (wt.setCell ⟨bS, oS + p * 3 + 2, none⟩ (.string dt)).heap[b]?) → AnsA w w' [.slice (some ⟨bS, oS, none⟩) x.vSlots.length dS, .slice pF x.vFree.length dF] ⟨x.vSlots.set p ⟨x.vSlots[p].vGen, x.vSlots[p].vUsed, dt⟩, x.vFree⟩) := fun w' k => by
    refine ansRows (base := w1_.heap.size) (hSeqS.stays SlotOwn_stays (fun b m => ?_)) (hSeqF.stays intOwn_stays (fun b m => ?_)) (fun b m => (hlS.out b m).1) (fun b m => (hlF.out b m).1) (by omega) hap.out
    · have := (hlS.out b m).1; exact k b (by omega)
    · have := (hlF.out b m).1; exact k b (by omega)
  have hB4 : Below w.heap.size w (wt.setCell ⟨bS, oS + p * 3 + 2, none⟩ (.string dt)) := hB2.trans (hO4.below hB2.size (fun b m => by simp at m; subst m; omega))
  clear hSeqS hSeqF row4 hO4
  go_wp2_with fail
  generalize (wt.setCell ⟨bS, oS + p * 3 + 2, none⟩ (.string dt)) = w4 at bR4 hans hB4 ⊢
  have bRf : Hid (Box (putCells w4 (w.heap.size + 1 + 1) 0 [.slice (some ⟨bS, oS, none⟩) x.vSlots.length dS, .slice pF x.vFree.length dF]) (w.heap.size + 1 + 1) [.slice (some ⟨bS, oS, none⟩) x.vSlots.length dS, .slice pF x.vFree.length dF] 27) := (bR4.out.set _).set _
  have e0_ := bRf.out.cell 0 rfl
  have e1_ := bRf.out.cell 1 rfl
  simp only [putCells, Nat.zero_add] at e0_ e1_
  have hBf : Hid (Below w.heap.size w (putCells w4 (w.heap.size + 1 + 1) 0 [.slice (some ⟨bS, oS, none⟩) x.vSlots.length dS, .slice pF x.vFree.length dF])) := putCells_below _ _ _ _ _ _ (by omega) hB4
  have hKf : Hid (∀ b, b ≠ w.heap.size + 1 + 1 → (putCells w4 (w.heap.size + 1 + 1) 0 [.slice (some ⟨bS, oS, none⟩) x.vSlots.length dS, .slice pF x.vFree.length dF]).heap[b]? = (World.heap w4)[b]?) := fun b n1 => putCells_other _ _ _ _ _ n1
  refine bodyPost_ret (v := .tuple #[.agg (List.toArray [.slice (some ⟨bS, oS, none⟩) x.vSlots.length dS, .slice pF x.vFree.length dF]), .bool true]) (by simp [results, Try.results23, go_sem, e0_, e1_]) rfl ⟨by rw [HD.out]; exact ⟨_, rfl, hans.out _ hKf.out⟩, hBf.out⟩
set_option maxRecDepth 100000 in
set_option maxHeartbeats 4000000 in
theorem implStored_any {w : World} {lo : Nat} {cs : List Value} {x : ArenaD} {hAt hGen : Int} {dt : ByteArray} (hx : ArenaAt w lo cs x) (hd : dt.size ≤ maxLen) :
    Calls Try.prog 22 #[.agg cs.toArray, .agg #[.int .i64 hAt, .int .i64 hGen], .string dt] w fun e w' => AnsAB w w' (storedD x hAt hGen dt) e ∧ Below w.heap.size w w' := by
  have hx' : Hid (ArenaAt w lo cs x) := hx
  obtain ⟨k0, k1, rfl, s0, s1, _⟩ := hx
  obtain ⟨a0, c0, rfl⟩ := s0.form
  obtain ⟨a1, c1, rfl⟩ := s1.form
  clear s0 s1
  have hdt : Hid (dt.size ≤ maxLen) := hd
  clear hd
  have hb0 : Below w.heap.size w (((w.alloc (.cells (List.toArray [.slice a0 x.vSlots.length c0, .slice a1 x.vFree.length c1]) 27)).alloc (.cells (List.toArray [.int .i64 hAt, .int .i64 hGen]) 31)).alloc (.cells (List.toArray [.slice none 0 0, .slice none 0 0]) 27)) := (((Below.refl _ _).alloc (Nat.le_refl _) _).alloc (by simp) _).alloc (by simp; omega) _
  have bA0 : Hid (Box (((w.alloc (.cells (List.toArray [.slice a0 x.vSlots.length c0, .slice a1 x.vFree.length c1]) 27)).alloc (.cells (List.toArray [.int .i64 hAt, .int .i64 hGen]) 31)).alloc (.cells (List.toArray [.slice none 0 0, .slice none 0 0]) 27)) w.heap.size [.slice a0 x.vSlots.length c0, .slice a1 x.vFree.length c1] 27) := ((Box.new w _ _).alloc _).alloc _
  have bH0 : Hid (Box (((w.alloc (.cells (List.toArray [.slice a0 x.vSlots.length c0, .slice a1 x.vFree.length c1]) 27)).alloc (.cells (List.toArray [.int .i64 hAt, .int .i64 hGen]) 31)).alloc (.cells (List.toArray [.slice none 0 0, .slice none 0 0]) 27)) (w.heap.size + 1) [.int .i64 hAt, .int .i64 hGen] 31) := by have h5 := (Box.new (w.alloc (.cells (List.toArray [.slice a0 x.vSlots.length c0, .slice a1 x.vFree.length c1]) 27)) [.int .i64 hAt, .int .i64 hGen] 31).alloc (.cells (List.toArray [.slice none 0 0, .slice none 0 0]) 27); simpa [Hid] using h5
  have bR0 : Hid (Box (((w.alloc (.cells (List.toArray [.slice a0 x.vSlots.length c0, .slice a1 x.vFree.length c1]) 27)).alloc (.cells (List.toArray [.int .i64 hAt, .int .i64 hGen]) 31)).alloc (.cells (List.toArray [.slice none 0 0, .slice none 0 0]) 27)) (w.heap.size + 1 + 1) [.slice none 0 0, .slice none 0 0] 27) := by have h5 := Box.new ((w.alloc (.cells (List.toArray [.slice a0 x.vSlots.length c0, .slice a1 x.vFree.length c1]) 27)).alloc (.cells (List.toArray [.int .i64 hAt, .int .i64 hGen]) 31)) [.slice none 0 0, .slice none 0 0] 27; simpa [Hid] using h5
  have hxA : Hid (ArenaAt (((w.alloc (.cells (List.toArray [.slice a0 x.vSlots.length c0, .slice a1 x.vFree.length c1]) 27)).alloc (.cells (List.toArray [.int .i64 hAt, .int .i64 hGen]) 31)).alloc (.cells (List.toArray [.slice none 0 0, .slice none 0 0]) 27)) lo [.slice a0 x.vSlots.length c0, .slice a1 x.vFree.length c1] x) := ArenaAt_stays _ _ _ lo _ _ (.of_below hb0) hx'.out
  have hno : Hid (∀ w2 : World, AnsAB w w2 (nilA, false) (.returned (.tuple #[.agg #[.slice none 0 0, .slice none 0 0], .bool false]))) := fun w2 => ⟨[.slice none 0 0, .slice none 0 0], rfl, ansNil⟩
  go_enter Try.func22, Try.ntmps22
  go_wp2_with fail
  refine (living_any hxA.out).mono ?_
  rintro e w1 ⟨hA, hb1⟩
  have hB1 : Below w.heap.size w w1 := hb0.trans (hb1.mono hb0.size)
  have bR1 : Hid (Box w1 (w.heap.size + 1 + 1) [.slice none 0 0, .slice none 0 0] 27) := bR0.out.below hb1 bR0.out.lt
  have q0 := bR1.out.cell 0 rfl
  have q1 := bR1.out.cell 1 rfl
  have qu := bR1.out.unfrozen
  rcases hA with ⟨hn, u, v, rfl⟩ | ⟨hy, g, k, fk, fs, ffs, b, off, cap, qq, rfl, hP, ek, zp⟩
  · have HD : Hid _ := storedD_dead (dt := dt) (liveB_false hn)
    clear hn
    go_wp2_with fail
    have bRf : Hid (Box (putCells w1 (w.heap.size + 1 + 1) 0 [.slice none 0 0, .slice none 0 0]) (w.heap.size + 1 + 1) [.slice none 0 0, .slice none 0 0] 27) := (bR1.out.set _).set _
    have e0_ := bRf.out.cell 0 rfl
    have e1_ := bRf.out.cell 1 rfl
    simp only [putCells, Nat.zero_add] at e0_ e1_
    have hBf : Hid (Below w.heap.size w (putCells w1 (w.heap.size + 1 + 1) 0 [.slice none 0 0, .slice none 0 0])) := putCells_below _ _ _ _ _ _ (by omega) hB1
    have hKf : Hid (∀ b, b ≠ w.heap.size + 1 + 1 → (putCells w1 (w.heap.size + 1 + 1) 0 [.slice none 0 0, .slice none 0 0]).heap[b]? = (World.heap w1)[b]?) := fun b n1 => putCells_other _ _ _ _ _ n1
    refine bodyPost_ret (v := .tuple #[.agg (List.toArray [.slice none 0 0, .slice none 0 0]), .bool false]) (by simp [results, Try.results22, go_sem, e0_, e1_]) rfl ⟨by rw [HD.out]; exact hno.out _, hBf.out⟩
  have hL := liveB_true hy
  obtain ⟨hy0, hi0, hp1, _⟩ := hy
  have hn2 : x.vSlots.length ≤ 12 := hy0.2.1
  have hn3 : x.vFree.length ≤ 12 := by have := hy0.2.2.1; omega
  clear hy0
  go_wp2_with fail
  refine (wordsOk_any _ _ _ hdt.out).mono ?_
  rintro e w1_ ⟨rfl, rfl⟩
  cases hW : wordB 10 dt with
  | false =>
    have HD : Hid _ := storedD_word (x := x) (a := hAt) (g := hGen) hW
    go_wp2_with fail
    have bRf : Hid (Box (putCells w1_ (w.heap.size + 1 + 1) 0 [.slice none 0 0, .slice none 0 0]) (w.heap.size + 1 + 1) [.slice none 0 0, .slice none 0 0] 27) := (bR1.out.set _).set _
    have e0_ := bRf.out.cell 0 rfl
    have e1_ := bRf.out.cell 1 rfl
    simp only [putCells, Nat.zero_add] at e0_ e1_
    have hBf : Hid (Below w.heap.size w (putCells w1_ (w.heap.size + 1 + 1) 0 [.slice none 0 0, .slice none 0 0])) := putCells_below _ _ _ _ _ _ (by omega) hB1
    have hKf : Hid (∀ b, b ≠ w.heap.size + 1 + 1 → (putCells w1_ (w.heap.size + 1 + 1) 0 [.slice none 0 0, .slice none 0 0]).heap[b]? = (World.heap w1_)[b]?) := fun b n1 => putCells_other _ _ _ _ _ n1
    refine bodyPost_ret (v := .tuple #[.agg (List.toArray [.slice none 0 0, .slice none 0 0]), .bool false]) (by simp [results, Try.results22, go_sem, e0_, e1_]) rfl ⟨by rw [HD.out]; exact hno.out _, hBf.out⟩
  | true =>
  have HD0 := storedD_yes hL hW hp1
  obtain ⟨p, rfl⟩ : ∃ p : Nat, hAt = (p : Int) := ⟨hAt.toNat, by omega⟩
  simp only [Int.toNat_natCast] at hp1 HD0 zp
  have HD : Hid _ := HD0
  clear HD0
  obtain ⟨b2, off2, cap2, q2, e2, z2, hBq, hrg, ⟨hqm, hql, hqlo⟩, hcl⟩ := hP.step hp1
  rw [ek] at e2
  injection e2 with e3 _ _
  injection e3 with e3
  injection e3 with e4 e5
  subst e4 e5
  rw [zp] at z2
  injection z2 with z2
  injection z2 with z2
  injection z2 with z2
  injection z2 with z2
  subst z2
  have z52 := hBq.cell 2 rfl
  have z5u := hBq.unfrozen
  have hz1 : w.heap.size + 1 + 1 < w1_.heap.size := bR1.out.lt
  have hqlo' : w.heap.size + 1 + 1 < qq := by simp only [World.size_alloc] at hqlo; omega
  have b7 : Box (w1_.setCell ⟨qq, 2, none⟩ (.string dt)) qq (slotC ⟨x.vSlots[p].vGen, x.vSlots[p].vUsed, dt⟩) 63 := hBq.set _
  have hP7 := hcl (w1_.setCell ⟨qq, 2, none⟩ (.string dt)) ⟨x.vSlots[p].vGen, x.vSlots[p].vUsed, dt⟩ ((Out.refl _ _).set (by simp) _) b7 hrg.1 hdt.out
  have hP7h : Hid _ := hP7
  have bR7 : Hid (Box (w1_.setCell ⟨qq, 2, none⟩ (.string dt)) (w.heap.size + 1 + 1) [.slice none 0 0, .slice none 0 0] 27) := bR1.out.other (by omega) _
  have hB7 : Below w.heap.size w (w1_.setCell ⟨qq, 2, none⟩ (.string dt)) := hB1.setCell (by exact (by omega : w.heap.size ≤ qq)) _
  have s7 : (w1_.setCell ⟨qq, 2, none⟩ (.string dt)).heap.size = w1_.heap.size := set_size _
  clear hP hcl ek zp b7 hP7 hBq
  go_wp2_with fail
  refine (arena_any hP7h.out (by simpa using hn2) (by omega)).mono ?_
  rintro e w9 ⟨⟨csr, rfl, hansr⟩, hb9⟩
  have bR9 : Hid (Box w9 (w.heap.size + 1 + 1) [.slice none 0 0, .slice none 0 0] 27) := bR7.out.below hb9 bR7.out.lt
  have hB9 : Hid (Below w.heap.size w w9) := hB7.trans (hb9.mono hB7.size)
  have hansH : Hid (AnsA (w1_.setCell ⟨qq, 2, none⟩ (.string dt)) w9 csr ⟨x.vSlots.set p ⟨x.vSlots[p].vGen, x.vSlots[p].vUsed, dt⟩, x.vFree⟩) := hansr
  obtain ⟨_, ⟨_, _, _, _, rfl, ss, st, _⟩, _⟩ := hansr
  obtain ⟨pR, dR, rfl⟩ := ss.form
  obtain ⟨qR, eR, rfl⟩ := st.form
  simp only [List.length_set] at hansH ⊢
  have t0 := bR9.out.cell 0 rfl
  have t1 := bR9.out.cell 1 rfl
  have tu := bR9.out.unfrozen
  clear ss st hb9 q0 q1 qu
  go_wp2_with fail
  have bRf : Hid (Box (putCells w9 (w.heap.size + 1 + 1) 0 [.slice pR x.vSlots.length dR, .slice qR x.vFree.length eR]) (w.heap.size + 1 + 1) [.slice pR x.vSlots.length dR, .slice qR x.vFree.length eR] 27) := (bR9.out.set _).set _
  have e0_ := bRf.out.cell 0 rfl
  have e1_ := bRf.out.cell 1 rfl
  simp only [putCells, Nat.zero_add] at e0_ e1_
  have hBf : Hid (Below w.heap.size w (putCells w9 (w.heap.size + 1 + 1) 0 [.slice pR x.vSlots.length dR, .slice qR x.vFree.length eR])) := putCells_below _ _ _ _ _ _ (by omega) hB9.out
  have hKf : Hid (∀ b, b ≠ w.heap.size + 1 + 1 → (putCells w9 (w.heap.size + 1 + 1) 0 [.slice pR x.vSlots.length dR, .slice qR x.vFree.length eR]).heap[b]? = (World.heap w9)[b]?) := fun b n1 => putCells_other _ _ _ _ _ n1
  refine bodyPost_ret (v := .tuple #[.agg (List.toArray [.slice pR x.vSlots.length dR, .slice qR x.vFree.length eR]), .bool true]) (by simp [results, Try.results22, go_sem, e0_, e1_]) rfl ⟨by rw [HD.out]; exact ⟨_, rfl, hansH.out.keep (fun b m => hKf.out b (by rw [s7] at m; omega)) (by rw [s7]; omega)⟩, hBf.out⟩
end Go.Proofs.Ytcbomaflfjdmjaa
