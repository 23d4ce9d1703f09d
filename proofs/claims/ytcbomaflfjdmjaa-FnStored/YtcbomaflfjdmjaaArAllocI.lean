/- Allocated of the program, walked. -/
import Derived.Test.YtcbomaflfjdmjaaArAlloc
namespace Go.Proofs.Ytcbomaflfjdmjaa
open Go.RowKit
theorem AnsA.keep {w w0 w' w'' : World} {cs : List Value} {x : ArenaD} (h : AnsA w w' cs x) (hk : ∀ b, w.heap.size ≤ b → w''.heap[b]? = w'.heap[b]?) (hs : w0.heap.size ≤ w.heap.size) : AnsA w0 w'' cs x := by
  obtain ⟨fs, h1, h2, h3⟩ := h
  exact ⟨fs, ArenaOwn_stays _ _ _ _ _ (fun b m => hk b (h3 b m)) h1, h2, fun b m => Nat.le_trans hs (h3 b m)⟩
theorem PoolAt.setFree {w : World} {lo g : Nat} {xs : List SlotD} {fr : List Int} {k fk : Value} {fs ffs : List Nat} (h : PoolAt w lo g xs fr k fk fs ffs) {fk' : Value} {fr' : List Int} {ffs' : List Nat} (hF : SeqOwn 1 IntOwn w fk' fr' ffs') (h5 : ∀ b ∈ ffs', lo ≤ b) (h6 : g ∉ ffs') (h7 : ∀ b ∈ fs, b ∉ ffs') : PoolAt (w.setCell ⟨g, 1, none⟩ fk') lo g xs fr' k fk' fs ffs' := by
  obtain ⟨q1, q2, q3, q4, q5, q6, q7, q8, q9⟩ := h
  exact ⟨q1.set _, q2, q3.stays pslot_stays (fun b m => set_other (fun e : b = g => q7 (e ▸ m)) _), hF.stays intOwn_stays (fun b m => set_other (fun e : b = g => h6 (e ▸ m)) _), q5, h5, q7, h6, h7⟩
theorem SeqOwn.tail {w : World} {b off cap n : Nat} {p : Int} {rest : List Int} {ffs : List Nat} (h : SeqOwn 1 IntOwn w (.slice (some ⟨b, off, none⟩) n cap) (p :: rest) ffs) : SeqOwn 1 IntOwn w (.slice (some ⟨b, off + 1, none⟩) rest.length (cap - 1)) rest ffs ∧ (rest = [] → SeqOwn 1 IntOwn w (.slice (some ⟨b, off, none⟩) rest.length 0) rest ffs) := by
  obtain ⟨a', cap', e, hm, hx⟩ := h
  injection e with e1 e2 e3
  subst e1 e3
  simp only [List.length_cons] at hm
  rcases hx with ⟨h0, _⟩ | ⟨b', off', e, C, T, bss, h1, h2, h3, h4, h5, h6⟩
  · simp at h0
  · injection e with e
    injection e with e4 e5
    subst e4 e5
    simp only [List.length_cons] at h2 h3
    have hz : ∀ l ∈ bss, l = [] := fun l hl => by
      obtain ⟨i, hi, rfl⟩ := List.getElem_of_mem hl
      obtain ⟨_, _, _, r⟩ := h6 i (by simp; omega) hi
      exact r.2.2
    have hfl : bss.flatten = [] := List.flatten_eq_nil_iff.2 hz
    have hfl2 : bss.tail.flatten = [] := List.flatten_eq_nil_iff.2 (fun l hl => hz l (List.mem_of_mem_tail hl))
    refine ⟨⟨_, _, rfl, by omega, Or.inr ⟨b, off + 1, rfl, C, T, bss.tail, h1, by omega, by simp; omega, by rw [h4, hfl, hfl2], h5, fun i hi hi' => ?_⟩⟩, fun e => ?_⟩
    · obtain ⟨cs, l1, l2, l3⟩ := h6 (i + 1) (by simp; omega) (by omega)
      refine ⟨cs, l1, fun m hm => ?_, ?_⟩
      · rw [show off + 1 + i * 1 + m = off + (i + 1) * 1 + m by omega]; exact l2 m hm
      · rw [List.getElem_tail]; simpa using l3
    · subst e
      exact ⟨_, _, rfl, by simp, Or.inr ⟨b, off, rfl, C, T, [], h1, by simp; omega, rfl, by rw [h4, hfl]; rfl, h5, fun i hi => absurd hi (by simp)⟩⟩
set_option maxRecDepth 100000 in
set_option maxHeartbeats 4000000 in
theorem implAllocated_any {w : World} {lo : Nat} {cs : List Value} {x : ArenaD} {dt : ByteArray} (hx : ArenaAt w lo cs x) (hd : dt.size ≤ maxLen) :
    Calls Try.prog 9 #[.agg cs.toArray, .string dt] w fun e w' => AnsAH w w' (allocD x dt) e ∧ Below w.heap.size w w' := by
  have hx' : Hid (ArenaAt w lo cs x) := hx
  obtain ⟨k0, k1, rfl, s0, s1, _⟩ := hx
  obtain ⟨a0, c0, rfl⟩ := s0.form
  obtain ⟨a1, c1, rfl⟩ := s1.form
  have hdt : Hid (dt.size ≤ maxLen) := hd
  clear s0 s1 hd
  have hb0 : Below w.heap.size w (((w.alloc (.cells (List.toArray [.slice a0 x.vSlots.length c0, .slice a1 x.vFree.length c1]) 27)).alloc (.cells (List.toArray [.slice none 0 0, .slice none 0 0]) 27)).alloc (.cells (List.toArray [.int .i64 0, .int .i64 0]) 31)) := (((Below.refl _ _).alloc (Nat.le_refl _) _).alloc (by simp) _).alloc (by simp; omega) _
  have bA0 : Hid (Box (((w.alloc (.cells (List.toArray [.slice a0 x.vSlots.length c0, .slice a1 x.vFree.length c1]) 27)).alloc (.cells (List.toArray [.slice none 0 0, .slice none 0 0]) 27)).alloc (.cells (List.toArray [.int .i64 0, .int .i64 0]) 31)) w.heap.size [.slice a0 x.vSlots.length c0, .slice a1 x.vFree.length c1] 27) := ((Box.new w _ _).alloc _).alloc _
  have bR0 : Hid (Box (((w.alloc (.cells (List.toArray [.slice a0 x.vSlots.length c0, .slice a1 x.vFree.length c1]) 27)).alloc (.cells (List.toArray [.slice none 0 0, .slice none 0 0]) 27)).alloc (.cells (List.toArray [.int .i64 0, .int .i64 0]) 31)) (w.heap.size + 1) [.slice none 0 0, .slice none 0 0] 27) := by have h5 := (Box.new (w.alloc (.cells (List.toArray [.slice a0 x.vSlots.length c0, .slice a1 x.vFree.length c1]) 27)) [.slice none 0 0, .slice none 0 0] 27).alloc (.cells (List.toArray [.int .i64 0, .int .i64 0]) 31); simpa [Hid] using h5
  have bH0 : Hid (Box (((w.alloc (.cells (List.toArray [.slice a0 x.vSlots.length c0, .slice a1 x.vFree.length c1]) 27)).alloc (.cells (List.toArray [.slice none 0 0, .slice none 0 0]) 27)).alloc (.cells (List.toArray [.int .i64 0, .int .i64 0]) 31)) (w.heap.size + 1 + 1) [.int .i64 0, .int .i64 0] 31) := by have h5 := Box.new ((w.alloc (.cells (List.toArray [.slice a0 x.vSlots.length c0, .slice a1 x.vFree.length c1]) 27)).alloc (.cells (List.toArray [.slice none 0 0, .slice none 0 0]) 27)) [.int .i64 0, .int .i64 0] 31; simpa [Hid] using h5
  have hxA : Hid (ArenaAt (((w.alloc (.cells (List.toArray [.slice a0 x.vSlots.length c0, .slice a1 x.vFree.length c1]) 27)).alloc (.cells (List.toArray [.slice none 0 0, .slice none 0 0]) 27)).alloc (.cells (List.toArray [.int .i64 0, .int .i64 0]) 31)) lo [.slice a0 x.vSlots.length c0, .slice a1 x.vFree.length c1] x) := ArenaAt_stays _ _ _ lo _ _ (.of_below hb0) hx'.out
  have hno : Hid (∀ w2 : World, AnsAH w w2 (nilA, 0, 0, false) (.returned (.tuple #[.agg #[.slice none 0 0, .slice none 0 0], .agg #[.int .i64 0, .int .i64 0], .bool false]))) := fun w2 => ⟨[.slice none 0 0, .slice none 0 0], rfl, ansNil⟩
  go_enter Try.func9, Try.ntmps9
  go_wp2_with fail
  refine (rightPool_any hxA.out).mono ?_
  rintro e w1 ⟨hA, hb1⟩
  have hB1 : Below w.heap.size w w1 := hb0.trans (hb1.mono hb0.size)
  have bA1 : Hid (Box w1 w.heap.size [.slice a0 x.vSlots.length c0, .slice a1 x.vFree.length c1] 27) := bA0.out.below hb1 bA0.out.lt
  have bR1 : Hid (Box w1 (w.heap.size + 1) [.slice none 0 0, .slice none 0 0] 27) := bR0.out.below hb1 bR0.out.lt
  have bH1 : Hid (Box w1 (w.heap.size + 1 + 1) [.int .i64 0, .int .i64 0] 31) := bH0.out.below hb1 bH0.out.lt
  have hz1 : w.heap.size + 1 + 1 < w1.heap.size := bH1.out.lt
  have q0 := bR1.out.cell 0 rfl
  have q1 := bR1.out.cell 1 rfl
  have qu := bR1.out.unfrozen
  have q3 := bH1.out.cell 0 rfl
  have q4 := bH1.out.cell 1 rfl
  have qv := bH1.out.unfrozen
  rcases hA with ⟨hn, v, rfl⟩ | ⟨hy0, g, k, fk, fs, ffs, rfl, hP⟩
  · have HD : Hid _ := allocD_wrong (dt := dt) (rightB_false hn)
    clear hn
    go_wp2_with fail
    have bRf : Hid (Box (putCells (putCells w1 (w.heap.size + 1) 0 [.slice none 0 0, .slice none 0 0]) (w.heap.size + 1 + 1) 0 [.int .i64 0, .int .i64 0]) (w.heap.size + 1) [.slice none 0 0, .slice none 0 0] 27) := (((bR1.out.set _).set _).other (by omega) _).other (by omega) _
    have bHf : Hid (Box (putCells (putCells w1 (w.heap.size + 1) 0 [.slice none 0 0, .slice none 0 0]) (w.heap.size + 1 + 1) 0 [.int .i64 0, .int .i64 0]) (w.heap.size + 1 + 1) [.int .i64 0, .int .i64 0] 31) := ((((bH1.out.other (by omega) _).other (by omega) _).set _).set _)
    have e0_ := bRf.out.cell 0 rfl
    have e1_ := bRf.out.cell 1 rfl
    have e2_ := bHf.out.cell 0 rfl
    have e3_ := bHf.out.cell 1 rfl
    simp only [putCells, Nat.zero_add] at e0_ e1_ e2_ e3_
    have hBf : Hid (Below w.heap.size w (putCells (putCells w1 (w.heap.size + 1) 0 [.slice none 0 0, .slice none 0 0]) (w.heap.size + 1 + 1) 0 [.int .i64 0, .int .i64 0])) := putCells_below _ _ _ _ _ _ (by omega) (putCells_below _ _ _ _ _ _ (by omega) hB1)
    have hKf : Hid (∀ b, b ≠ w.heap.size + 1 → b ≠ w.heap.size + 1 + 1 → (putCells (putCells w1 (w.heap.size + 1) 0 [.slice none 0 0, .slice none 0 0]) (w.heap.size + 1 + 1) 0 [.int .i64 0, .int .i64 0]).heap[b]? = (World.heap w1)[b]?) := fun b n1 n2 => (putCells_other _ _ _ _ _ n2).trans (putCells_other _ _ _ _ _ n1)
    refine bodyPost_ret (v := .tuple #[.agg (List.toArray [.slice none 0 0, .slice none 0 0]), .agg (List.toArray [.int .i64 0, .int .i64 0]), .bool false]) (by simp [results, Try.results9, go_sem, e0_, e1_, e2_, e3_]) rfl ⟨by rw [HD.out]; exact hno.out _, hBf.out⟩
  have hR := rightB_true hy0
  have hy : Hid (RightI x) := hy0
  have hn2 : x.vSlots.length ≤ 12 := hy0.2.1
  have hn3 : x.vFree.length ≤ 12 := by have := hy0.2.2.1; omega
  obtain ⟨⟨a, cap, rfl⟩, a2, cap2, rfl⟩ := hP.form
  have hPlo : Hid (∀ b, b ∈ g :: (fs ++ ffs) → w.heap.size + 1 + 1 < b) := fun b m => by
    obtain ⟨_, l2, _, _, l5, l6, _⟩ := hP
    simp only [World.size_alloc] at l2 l5 l6
    rcases List.mem_cons.1 m with e | e
    · omega
    · rcases List.mem_append.1 e with e | e
      · have := l5 b e; omega
      · have := l6 b e; omega
  have hP' : Hid (PoolAt w1 w.heap.size g x.vSlots x.vFree (.slice a x.vSlots.length cap) (.slice a2 x.vFree.length cap2) fs ffs) := by
    obtain ⟨h1, h2, h3, h4, h5, h6, h7⟩ := hP
    simp only [World.size_alloc] at h2 h5 h6
    exact ⟨h1, by omega, h3, h4, fun b r => by have := h5 b r; omega, fun b r => by have := h6 b r; omega, h7⟩
  have hgc := hP'.out.1.cell 1 rfl
  have hgu := hP'.out.1.unfrozen
  have hglo := hPlo.out g (by simp)
  clear hP hy0
  by_cases h0 : x.vFree.length = 0
  · have HD : Hid _ := allocD_full (dt := dt) (List.eq_nil_of_length_eq_zero h0)
    have h0' : ((x.vFree.length : Int) == 0) = true := by simp [h0]
    go_wp2_with fail
    have bRf : Hid (Box (putCells (putCells w1 (w.heap.size + 1) 0 [.slice none 0 0, .slice none 0 0]) (w.heap.size + 1 + 1) 0 [.int .i64 0, .int .i64 0]) (w.heap.size + 1) [.slice none 0 0, .slice none 0 0] 27) := (((bR1.out.set _).set _).other (by omega) _).other (by omega) _
    have bHf : Hid (Box (putCells (putCells w1 (w.heap.size + 1) 0 [.slice none 0 0, .slice none 0 0]) (w.heap.size + 1 + 1) 0 [.int .i64 0, .int .i64 0]) (w.heap.size + 1 + 1) [.int .i64 0, .int .i64 0] 31) := ((((bH1.out.other (by omega) _).other (by omega) _).set _).set _)
    have e0_ := bRf.out.cell 0 rfl
    have e1_ := bRf.out.cell 1 rfl
    have e2_ := bHf.out.cell 0 rfl
    have e3_ := bHf.out.cell 1 rfl
    simp only [putCells, Nat.zero_add] at e0_ e1_ e2_ e3_
    have hBf : Hid (Below w.heap.size w (putCells (putCells w1 (w.heap.size + 1) 0 [.slice none 0 0, .slice none 0 0]) (w.heap.size + 1 + 1) 0 [.int .i64 0, .int .i64 0])) := putCells_below _ _ _ _ _ _ (by omega) (putCells_below _ _ _ _ _ _ (by omega) hB1)
    have hKf : Hid (∀ b, b ≠ w.heap.size + 1 → b ≠ w.heap.size + 1 + 1 → (putCells (putCells w1 (w.heap.size + 1) 0 [.slice none 0 0, .slice none 0 0]) (w.heap.size + 1 + 1) 0 [.int .i64 0, .int .i64 0]).heap[b]? = (World.heap w1)[b]?) := fun b n1 n2 => (putCells_other _ _ _ _ _ n2).trans (putCells_other _ _ _ _ _ n1)
    refine bodyPost_ret (v := .tuple #[.agg (List.toArray [.slice none 0 0, .slice none 0 0]), .agg (List.toArray [.int .i64 0, .int .i64 0]), .bool false]) (by simp [results, Try.results9, go_sem, e0_, e1_, e2_, e3_]) rfl ⟨by rw [HD.out]; exact hno.out _, hBf.out⟩
  have h0' : ((x.vFree.length : Int) == 0) = false := by simpa using h0
  go_wp2_with fail
  refine (wordsOk_any _ _ _ hdt.out).mono ?_
  rintro e w1_ ⟨rfl, rfl⟩
  cases hW : wordB 10 dt with
  | false =>
    have HD : Hid _ := allocD_word (x := x) hW
    go_wp2_with fail
    have bRf : Hid (Box (putCells (putCells w1_ (w.heap.size + 1) 0 [.slice none 0 0, .slice none 0 0]) (w.heap.size + 1 + 1) 0 [.int .i64 0, .int .i64 0]) (w.heap.size + 1) [.slice none 0 0, .slice none 0 0] 27) := (((bR1.out.set _).set _).other (by omega) _).other (by omega) _
    have bHf : Hid (Box (putCells (putCells w1_ (w.heap.size + 1) 0 [.slice none 0 0, .slice none 0 0]) (w.heap.size + 1 + 1) 0 [.int .i64 0, .int .i64 0]) (w.heap.size + 1 + 1) [.int .i64 0, .int .i64 0] 31) := ((((bH1.out.other (by omega) _).other (by omega) _).set _).set _)
    have e0_ := bRf.out.cell 0 rfl
    have e1_ := bRf.out.cell 1 rfl
    have e2_ := bHf.out.cell 0 rfl
    have e3_ := bHf.out.cell 1 rfl
    simp only [putCells, Nat.zero_add] at e0_ e1_ e2_ e3_
    have hBf : Hid (Below w.heap.size w (putCells (putCells w1_ (w.heap.size + 1) 0 [.slice none 0 0, .slice none 0 0]) (w.heap.size + 1 + 1) 0 [.int .i64 0, .int .i64 0])) := putCells_below _ _ _ _ _ _ (by omega) (putCells_below _ _ _ _ _ _ (by omega) hB1)
    have hKf : Hid (∀ b, b ≠ w.heap.size + 1 → b ≠ w.heap.size + 1 + 1 → (putCells (putCells w1_ (w.heap.size + 1) 0 [.slice none 0 0, .slice none 0 0]) (w.heap.size + 1 + 1) 0 [.int .i64 0, .int .i64 0]).heap[b]? = (World.heap w1_)[b]?) := fun b n1 n2 => (putCells_other _ _ _ _ _ n2).trans (putCells_other _ _ _ _ _ n1)
    refine bodyPost_ret (v := .tuple #[.agg (List.toArray [.slice none 0 0, .slice none 0 0]), .agg (List.toArray [.int .i64 0, .int .i64 0]), .bool false]) (by simp [results, Try.results9, go_sem, e0_, e1_, e2_, e3_]) rfl ⟨by rw [HD.out]; exact hno.out _, hBf.out⟩
  | true =>
  obtain ⟨p0, rest, hfr⟩ : ∃ p0 rest, x.vFree = p0 :: rest := by
    cases hh : x.vFree with
    | nil => rw [hh] at h0; simp at h0
    | cons p0 rest => exact ⟨p0, rest, rfl⟩
  have hlenH : Hid (x.vFree.length = rest.length + 1) := by show _ = _; rw [hfr]; simp
  obtain ⟨hp0, ⟨hp1, _⟩, _⟩ := hy.out.2.2.2.2.1 0 (by rw [hlenH.out]; omega) (by rw [hlenH.out]; omega)
  have hg0 : x.vFree[0]'(by rw [hlenH.out]; omega) = p0 := by simp [hfr]
  rw [hg0] at hp0
  simp only [hg0] at hp1
  have HD0 := allocD_yes hR hW hfr hp1
  obtain ⟨p, rfl⟩ : ∃ p : Nat, p0 = (p : Int) := ⟨p0.toNat, by omega⟩
  simp only [Int.toNat_natCast] at hp1 HD0
  have HD : Hid _ := HD0
  have hfrH : Hid (x.vFree = (p : Int) :: rest) := hfr
  clear HD0 hg0 h0 h0' hp0
  obtain ⟨bF, oF, _, _, csF, _, rfl, hrowF, _, _, hrF, _⟩ := hP'.out.2.2.2.1.step intOwn_stays intOwn_lt (j := 0) (by rw [hlenH.out]; omega)
  obtain ⟨rfl, rI, _⟩ := hrF
  have hg1 : x.vFree[0]'(by rw [hlenH.out]; omega) = (p : Int) := by simp [hfrH.out]
  rw [hg1] at hrowF
  have zF := hrowF.cell 0 rfl
  simp only [Nat.zero_mul, Nat.add_zero] at zF
  have hcapF : rest.length + 1 ≤ cap2 := by obtain ⟨_, _, e, hm, _⟩ := hP'.out.2.2.2.1; injection e with _ _ e3; subst e3; have := hm.2; rw [hlenH.out] at this; exact this
  have hT0 : SeqOwn 1 IntOwn w1_ (.slice (some ⟨bF, oF, none⟩) (rest.length + 1) cap2) ((p : Int) :: rest) ffs := by rw [← hfr, ← hlenH.out]; exact hP'.out.2.2.2.1
  have hTail : Hid (∀ oT cT, (cap2 = 1 ∧ oT = oF ∧ cT = 0) ∨ (¬ cap2 = 1 ∧ oT = oF + 1 ∧ cT = cap2 - 1) → SeqOwn 1 IntOwn w1_ (.slice (some ⟨bF, oT, none⟩) rest.length cT) rest ffs) := by
    intro oT cT h
    rcases h with ⟨e1, rfl, rfl⟩ | ⟨_, rfl, rfl⟩
    · exact hT0.tail.2 (List.eq_nil_of_length_eq_zero (by omega))
    · exact hT0.tail.1
  have hcapH : Hid (rest.length + 1 ≤ cap2) := hcapF
  have hp2 : (p : Int) < (x.vSlots.length : Int) := by omega
  have hp3 : (0 : Int) ≤ (p : Int) := by omega
  have hgR : w.heap.size + 1 ≠ g := by omega
  have hgH : w.heap.size + 1 + 1 ≠ g := by omega
  have hlen := hlenH.out
  clear hcapF hrowF hT0 hfr
  by_cases hd1 : cap2 = 1
  · subst hd1
    have hTl := hTail.out (oF) (0) (Or.inl ⟨rfl, rfl, rfl⟩)
    have hP5 : Hid (PoolAt (w1_.setCell ⟨g, 1, none⟩ (.slice (some ⟨bF, oF, none⟩) rest.length (0))) w.heap.size g x.vSlots rest (.slice a x.vSlots.length cap) (.slice (some ⟨bF, oF, none⟩) rest.length (0)) fs ffs) := hP'.out.setFree hTl hP'.out.2.2.2.2.2.1 hP'.out.2.2.2.2.2.2.2.1 hP'.out.2.2.2.2.2.2.2.2
    obtain ⟨bS, oS, dS, qq, ek, zq, hBq, hrg, ⟨hqm, hql, hqlo⟩, hcl⟩ := hP5.out.step hp1
    injection ek with ek1 _ ek3
    subst ek1 ek3
    have hrange : Hid (InI x.vSlots[p].vGen ∧ x.vSlots[p].vData.size ≤ maxLen) := hrg
    have hcl' : Hid _ := hcl
    have bq5 : Hid (Box (w1_.setCell ⟨g, 1, none⟩ (.slice (some ⟨bF, oF, none⟩) rest.length (0))) qq (slotC x.vSlots[p]) 63) := hBq
    have z50 := hBq.cell 0 rfl
    have z51 := hBq.cell 1 rfl
    have z52 := hBq.cell 2 rfl
    have z5u := hBq.unfrozen
    have b6 : Hid (Box ((w1_.setCell ⟨g, 1, none⟩ (.slice (some ⟨bF, oF, none⟩) rest.length (0))).setCell ⟨qq, 1, none⟩ (.bool true)) qq [.int .i64 x.vSlots[p].vGen, .bool true, .string x.vSlots[p].vData] 63) := hBq.set _
    have b7 : Hid (Box (((w1_.setCell ⟨g, 1, none⟩ (.slice (some ⟨bF, oF, none⟩) rest.length (0))).setCell ⟨qq, 1, none⟩ (.bool true)).setCell ⟨qq, 2, none⟩ (.string dt)) qq [.int .i64 x.vSlots[p].vGen, .bool true, .string dt] 63) := b6.out.set _
    have z62 := b6.out.cell 2 rfl
    have z6u := b6.out.unfrozen
    have hg5 := hP5.out.1.cell 0 rfl
    have hql' : qq < w1_.heap.size := by rw [set_size] at hql; exact hql
    have hqq := hPlo.out qq (List.mem_cons_of_mem _ (List.mem_append_left _ hqm))
    have hqR : w.heap.size + 1 ≠ qq := by omega
    have hqH : w.heap.size + 1 + 1 ≠ qq := by omega
    have hO7 : Out [qq] (w1_.setCell ⟨g, 1, none⟩ (.slice (some ⟨bF, oF, none⟩) rest.length (0))) (((w1_.setCell ⟨g, 1, none⟩ (.slice (some ⟨bF, oF, none⟩) rest.length (0))).setCell ⟨qq, 1, none⟩ (.bool true)).setCell ⟨qq, 2, none⟩ (.string dt)) := ((Out.refl _ _).set (by simp) _).set (by simp) _
    have hP7 := hcl (((w1_.setCell ⟨g, 1, none⟩ (.slice (some ⟨bF, oF, none⟩) rest.length (0))).setCell ⟨qq, 1, none⟩ (.bool true)).setCell ⟨qq, 2, none⟩ (.string dt)) ⟨x.vSlots[p].vGen, true, dt⟩ hO7 b7.out hrg.1 hdt.out
    have hB5 : Below w.heap.size w (w1_.setCell ⟨g, 1, none⟩ (.slice (some ⟨bF, oF, none⟩) rest.length (0))) := hB1.setCell (by exact hP'.out.2.1) _
    have hB7 : Below w.heap.size w (((w1_.setCell ⟨g, 1, none⟩ (.slice (some ⟨bF, oF, none⟩) rest.length (0))).setCell ⟨qq, 1, none⟩ (.bool true)).setCell ⟨qq, 2, none⟩ (.string dt)) := (hB5.setCell (by exact hqlo) _).setCell (by exact hqlo) _
    clear hcl hrg hBq hTl
    go_wp2_with fail
    have bR7 : Hid (Box (((w1_.setCell ⟨g, 1, none⟩ (.slice (some ⟨bF, oF, none⟩) rest.length (0))).setCell ⟨qq, 1, none⟩ (.bool true)).setCell ⟨qq, 2, none⟩ (.string dt)) (w.heap.size + 1) [.slice none 0 0, .slice none 0 0] 27) := ((bR1.out.other hgR _).other hqR _).other hqR _
    have bH7 : Hid (Box (((w1_.setCell ⟨g, 1, none⟩ (.slice (some ⟨bF, oF, none⟩) rest.length (0))).setCell ⟨qq, 1, none⟩ (.bool true)).setCell ⟨qq, 2, none⟩ (.string dt)) (w.heap.size + 1 + 1) [.int .i64 0, .int .i64 0] 31) := ((bH1.out.other hgH _).other hqH _).other hqH _
    have hP7h : Hid (PoolAt (((w1_.setCell ⟨g, 1, none⟩ (.slice (some ⟨bF, oF, none⟩) rest.length (0))).setCell ⟨qq, 1, none⟩ (.bool true)).setCell ⟨qq, 2, none⟩ (.string dt)) w.heap.size g (x.vSlots.set p ⟨x.vSlots[p].vGen, true, dt⟩) rest (.slice (some ⟨bS, oS, none⟩) x.vSlots.length cap) (.slice (some ⟨bF, oF, none⟩) rest.length (0)) fs ffs) := hP7
    have v0_ := b7.out.cell 0 rfl
    have s7 : (((w1_.setCell ⟨g, 1, none⟩ (.slice (some ⟨bF, oF, none⟩) rest.length (0))).setCell ⟨qq, 1, none⟩ (.bool true)).setCell ⟨qq, 2, none⟩ (.string dt)).heap.size = w1_.heap.size := by rw [set_size, set_size, set_size]
    clear hP7 hO7 z50 z51 z52 z5u z62 z6u hg5 zq b6 hB5
    generalize (((w1_.setCell ⟨g, 1, none⟩ (.slice (some ⟨bF, oF, none⟩) rest.length (0))).setCell ⟨qq, 1, none⟩ (.bool true)).setCell ⟨qq, 2, none⟩ (.string dt)) = w7 at bR7 bH7 hP7h v0_ s7 hB7 ⊢
    have hP7d : Hid (PoolAt w7.drew w.heap.size g (x.vSlots.set p ⟨x.vSlots[p].vGen, true, dt⟩) rest (.slice (some ⟨bS, oS, none⟩) x.vSlots.length cap) (.slice (some ⟨bF, oF, none⟩) rest.length (0)) fs ffs) := hP7h.out.below (Below.refl _ _).drew
    refine wp_region_held_drew (S := fun w' => w'.cell? ⟨qq, 0, none⟩ = some (.int .i64 x.vSlots[p].vGen)) (by kernel_rfl) v0_ (fun hHeld => ?_)
    refine tq (i := 0) (d := 61) ?_
    simp only [sz, ss]
    refine tq (i := 2) (d := 63) ?_
    simp only [sz, ss]
    refine tq (i := 3) (d := 64) ?_
    simp only [sz, ss]
    refine tq (i := 4) (d := 65) ?_
    simp only [sz, ss]
    refine tq (i := 5) (d := 66) ?_
    simp only [sz, ss]
    refine tq (i := 6) (d := 67) ?_
    simp only [sz, ss]
    refine tq (i := 7) (d := 68) ?_
    simp only [sz, ss]
    refine wpAnyH_ready (rs := [1]) (by kernel_rfl) (by simp) ?_
    refine AllReadyH.cons rfl (fun K hK => ?_) AllReadyH.nil
    go_simp
    refine (arena_any (by exact hP7d.out) (by simpa using hn2) (by omega)).mono ?_
    rintro e w9 ⟨⟨csr, rfl, hansr⟩, hb9⟩
    have hb9' := undrew hb9
    have bR9 : Hid (Box w9 (w.heap.size + 1) [.slice none 0 0, .slice none 0 0] 27) := bR7.out.below hb9' bR7.out.lt
    have bH9 : Hid (Box w9 (w.heap.size + 1 + 1) [.int .i64 0, .int .i64 0] 31) := bH7.out.below hb9' bH7.out.lt
    have hB9 : Hid (Below w.heap.size w w9) := hB7.trans (hb9'.mono hB7.size)
    have hansH : Hid (AnsA w7.drew w9 csr ⟨x.vSlots.set p ⟨x.vSlots[p].vGen, true, dt⟩, rest⟩) := hansr
    obtain ⟨_, ⟨_, _, _, _, rfl, ss, st, _⟩, _⟩ := hansr
    obtain ⟨pR, dR, rfl⟩ := ss.form
    obtain ⟨qR, eR, rfl⟩ := st.form
    simp only [List.length_set] at hansH ⊢
    clear ss st
    skip
    refine hK.out _ _ (cell_on hb9 hHeld) (fun hHeld => ?_)
    clear hK K
    refine wpAnyH_ready (rs := [8]) (by kernel_rfl) (by simp) ?_
    refine AllReadyH.cons rfl (fun K hK => ?_) AllReadyH.nil
    have u0 := bR9.out.cell 0 rfl
    have u1 := bR9.out.cell 1 rfl
    have u2 := bR9.out.unfrozen
    go_simp
    clear u0 u1 u2
    refine hK.out _ _ (cell_set (T := w.heap.size + 1) (cell_set (T := w.heap.size + 1) hHeld (by omega) _) (by omega) _) (fun hHeld => ?_)
    clear hK K
    refine wpAnyH_ready (rs := [9]) (by kernel_rfl) (by simp) ?_
    refine AllReadyH.cons rfl (fun K hK => ?_) AllReadyH.nil
    have bX2 : Hid (Box ((w9.setCell ⟨w.heap.size + 1, 0, none⟩ (.slice pR x.vSlots.length dR)).setCell ⟨w.heap.size + 1, 1, none⟩ (.slice qR rest.length eR)) (w.heap.size + 1 + 1) [.int .i64 0, .int .i64 0] 31) := (bH9.out.other (by omega) _).other (by omega) _
    have u0 := bX2.out.cell 0 rfl
    have u1 := bX2.out.cell 1 rfl
    have u2 := bX2.out.unfrozen
    go_simp
    clear u0 u1 u2
    refine hK.out _ _ (cell_set (T := w.heap.size + 1 + 1) (cell_set (T := w.heap.size + 1 + 1) hHeld (by omega) _) (by omega) _) (fun hHeld => ?_)
    clear hK K
    refine tq (i := 10) (d := 6) ?_
    simp only [sz, ss]
    refine wpAnyH_done (by kernel_rfl) ?_ _
    go_wp2_with fail
    have bRf : Hid (Box (putCells (putCells w9 (w.heap.size + 1) 0 [.slice pR x.vSlots.length dR, .slice qR rest.length eR]) (w.heap.size + 1 + 1) 0 [.int .i64 (p : Int), .int .i64 x.vSlots[p].vGen]) (w.heap.size + 1) [.slice pR x.vSlots.length dR, .slice qR rest.length eR] 27) := (((bR9.out.set _).set _).other (by omega) _).other (by omega) _
    have bHf : Hid (Box (putCells (putCells w9 (w.heap.size + 1) 0 [.slice pR x.vSlots.length dR, .slice qR rest.length eR]) (w.heap.size + 1 + 1) 0 [.int .i64 (p : Int), .int .i64 x.vSlots[p].vGen]) (w.heap.size + 1 + 1) [.int .i64 (p : Int), .int .i64 x.vSlots[p].vGen] 31) := ((((bH9.out.other (by omega) _).other (by omega) _).set _).set _)
    have e0_ := bRf.out.cell 0 rfl
    have e1_ := bRf.out.cell 1 rfl
    have e2_ := bHf.out.cell 0 rfl
    have e3_ := bHf.out.cell 1 rfl
    simp only [putCells, Nat.zero_add] at e0_ e1_ e2_ e3_
    have hBf : Hid (Below w.heap.size w (putCells (putCells w9 (w.heap.size + 1) 0 [.slice pR x.vSlots.length dR, .slice qR rest.length eR]) (w.heap.size + 1 + 1) 0 [.int .i64 (p : Int), .int .i64 x.vSlots[p].vGen])) := putCells_below _ _ _ _ _ _ (by omega) (putCells_below _ _ _ _ _ _ (by omega) hB9.out)
    have hKf : Hid (∀ b, b ≠ w.heap.size + 1 → b ≠ w.heap.size + 1 + 1 → (putCells (putCells w9 (w.heap.size + 1) 0 [.slice pR x.vSlots.length dR, .slice qR rest.length eR]) (w.heap.size + 1 + 1) 0 [.int .i64 (p : Int), .int .i64 x.vSlots[p].vGen]).heap[b]? = (World.heap w9)[b]?) := fun b n1 n2 => (putCells_other _ _ _ _ _ n2).trans (putCells_other _ _ _ _ _ n1)
    refine bodyPost_ret (v := .tuple #[.agg (List.toArray [.slice pR x.vSlots.length dR, .slice qR rest.length eR]), .agg (List.toArray [.int .i64 (p : Int), .int .i64 x.vSlots[p].vGen]), .bool true]) (by simp [results, Try.results9, go_sem, e0_, e1_, e2_, e3_]) rfl ⟨by rw [HD.out]; exact ⟨_, rfl, hansH.out.keep (fun b m => hKf.out b (by simp at m; omega) (by simp at m; omega)) (by show w.heap.size ≤ w7.heap.size; omega)⟩, hBf.out⟩
  have hTl := hTail.out (oF + 1) (cap2 - 1) (Or.inr ⟨hd1, rfl, rfl⟩)
  have hP5 : Hid (PoolAt (w1_.setCell ⟨g, 1, none⟩ (.slice (some ⟨bF, oF + 1, none⟩) rest.length (cap2 - 1))) w.heap.size g x.vSlots rest (.slice a x.vSlots.length cap) (.slice (some ⟨bF, oF + 1, none⟩) rest.length (cap2 - 1)) fs ffs) := hP'.out.setFree hTl hP'.out.2.2.2.2.2.1 hP'.out.2.2.2.2.2.2.2.1 hP'.out.2.2.2.2.2.2.2.2
  obtain ⟨bS, oS, dS, qq, ek, zq, hBq, hrg, ⟨hqm, hql, hqlo⟩, hcl⟩ := hP5.out.step hp1
  injection ek with ek1 _ ek3
  subst ek1 ek3
  have hrange : Hid (InI x.vSlots[p].vGen ∧ x.vSlots[p].vData.size ≤ maxLen) := hrg
  have hcl' : Hid _ := hcl
  have bq5 : Hid (Box (w1_.setCell ⟨g, 1, none⟩ (.slice (some ⟨bF, oF + 1, none⟩) rest.length (cap2 - 1))) qq (slotC x.vSlots[p]) 63) := hBq
  have z50 := hBq.cell 0 rfl
  have z51 := hBq.cell 1 rfl
  have z52 := hBq.cell 2 rfl
  have z5u := hBq.unfrozen
  have b6 : Hid (Box ((w1_.setCell ⟨g, 1, none⟩ (.slice (some ⟨bF, oF + 1, none⟩) rest.length (cap2 - 1))).setCell ⟨qq, 1, none⟩ (.bool true)) qq [.int .i64 x.vSlots[p].vGen, .bool true, .string x.vSlots[p].vData] 63) := hBq.set _
  have b7 : Hid (Box (((w1_.setCell ⟨g, 1, none⟩ (.slice (some ⟨bF, oF + 1, none⟩) rest.length (cap2 - 1))).setCell ⟨qq, 1, none⟩ (.bool true)).setCell ⟨qq, 2, none⟩ (.string dt)) qq [.int .i64 x.vSlots[p].vGen, .bool true, .string dt] 63) := b6.out.set _
  have z62 := b6.out.cell 2 rfl
  have z6u := b6.out.unfrozen
  have hg5 := hP5.out.1.cell 0 rfl
  have hql' : qq < w1_.heap.size := by rw [set_size] at hql; exact hql
  have hqq := hPlo.out qq (List.mem_cons_of_mem _ (List.mem_append_left _ hqm))
  have hqR : w.heap.size + 1 ≠ qq := by omega
  have hqH : w.heap.size + 1 + 1 ≠ qq := by omega
  have hO7 : Out [qq] (w1_.setCell ⟨g, 1, none⟩ (.slice (some ⟨bF, oF + 1, none⟩) rest.length (cap2 - 1))) (((w1_.setCell ⟨g, 1, none⟩ (.slice (some ⟨bF, oF + 1, none⟩) rest.length (cap2 - 1))).setCell ⟨qq, 1, none⟩ (.bool true)).setCell ⟨qq, 2, none⟩ (.string dt)) := ((Out.refl _ _).set (by simp) _).set (by simp) _
  have hP7 := hcl (((w1_.setCell ⟨g, 1, none⟩ (.slice (some ⟨bF, oF + 1, none⟩) rest.length (cap2 - 1))).setCell ⟨qq, 1, none⟩ (.bool true)).setCell ⟨qq, 2, none⟩ (.string dt)) ⟨x.vSlots[p].vGen, true, dt⟩ hO7 b7.out hrg.1 hdt.out
  have hB5 : Below w.heap.size w (w1_.setCell ⟨g, 1, none⟩ (.slice (some ⟨bF, oF + 1, none⟩) rest.length (cap2 - 1))) := hB1.setCell (by exact hP'.out.2.1) _
  have hB7 : Below w.heap.size w (((w1_.setCell ⟨g, 1, none⟩ (.slice (some ⟨bF, oF + 1, none⟩) rest.length (cap2 - 1))).setCell ⟨qq, 1, none⟩ (.bool true)).setCell ⟨qq, 2, none⟩ (.string dt)) := (hB5.setCell (by exact hqlo) _).setCell (by exact hqlo) _
  clear hcl hrg hBq hTl
  go_wp2_with fail
  have bR7 : Hid (Box (((w1_.setCell ⟨g, 1, none⟩ (.slice (some ⟨bF, oF + 1, none⟩) rest.length (cap2 - 1))).setCell ⟨qq, 1, none⟩ (.bool true)).setCell ⟨qq, 2, none⟩ (.string dt)) (w.heap.size + 1) [.slice none 0 0, .slice none 0 0] 27) := ((bR1.out.other hgR _).other hqR _).other hqR _
  have bH7 : Hid (Box (((w1_.setCell ⟨g, 1, none⟩ (.slice (some ⟨bF, oF + 1, none⟩) rest.length (cap2 - 1))).setCell ⟨qq, 1, none⟩ (.bool true)).setCell ⟨qq, 2, none⟩ (.string dt)) (w.heap.size + 1 + 1) [.int .i64 0, .int .i64 0] 31) := ((bH1.out.other hgH _).other hqH _).other hqH _
  have hP7h : Hid (PoolAt (((w1_.setCell ⟨g, 1, none⟩ (.slice (some ⟨bF, oF + 1, none⟩) rest.length (cap2 - 1))).setCell ⟨qq, 1, none⟩ (.bool true)).setCell ⟨qq, 2, none⟩ (.string dt)) w.heap.size g (x.vSlots.set p ⟨x.vSlots[p].vGen, true, dt⟩) rest (.slice (some ⟨bS, oS, none⟩) x.vSlots.length cap) (.slice (some ⟨bF, oF + 1, none⟩) rest.length (cap2 - 1)) fs ffs) := hP7
  have v0_ := b7.out.cell 0 rfl
  have s7 : (((w1_.setCell ⟨g, 1, none⟩ (.slice (some ⟨bF, oF + 1, none⟩) rest.length (cap2 - 1))).setCell ⟨qq, 1, none⟩ (.bool true)).setCell ⟨qq, 2, none⟩ (.string dt)).heap.size = w1_.heap.size := by rw [set_size, set_size, set_size]
  clear hP7 hO7 z50 z51 z52 z5u z62 z6u hg5 zq b6 hB5
  generalize (((w1_.setCell ⟨g, 1, none⟩ (.slice (some ⟨bF, oF + 1, none⟩) rest.length (cap2 - 1))).setCell ⟨qq, 1, none⟩ (.bool true)).setCell ⟨qq, 2, none⟩ (.string dt)) = w7 at bR7 bH7 hP7h v0_ s7 hB7 ⊢
  have hP7d : Hid (PoolAt w7.drew w.heap.size g (x.vSlots.set p ⟨x.vSlots[p].vGen, true, dt⟩) rest (.slice (some ⟨bS, oS, none⟩) x.vSlots.length cap) (.slice (some ⟨bF, oF + 1, none⟩) rest.length (cap2 - 1)) fs ffs) := hP7h.out.below (Below.refl _ _).drew
  refine wp_region_held_drew (S := fun w' => w'.cell? ⟨qq, 0, none⟩ = some (.int .i64 x.vSlots[p].vGen)) (by kernel_rfl) v0_ (fun hHeld => ?_)
  refine tq (i := 0) (d := 61) ?_
  simp only [sz, ss]
  refine tq (i := 2) (d := 63) ?_
  simp only [sz, ss]
  refine tq (i := 3) (d := 64) ?_
  simp only [sz, ss]
  refine tq (i := 4) (d := 65) ?_
  simp only [sz, ss]
  refine tq (i := 5) (d := 66) ?_
  simp only [sz, ss]
  refine tq (i := 6) (d := 67) ?_
  simp only [sz, ss]
  refine tq (i := 7) (d := 68) ?_
  simp only [sz, ss]
  refine wpAnyH_ready (rs := [1]) (by kernel_rfl) (by simp) ?_
  refine AllReadyH.cons rfl (fun K hK => ?_) AllReadyH.nil
  go_simp
  refine (arena_any (by exact hP7d.out) (by simpa using hn2) (by omega)).mono ?_
  rintro e w9 ⟨⟨csr, rfl, hansr⟩, hb9⟩
  have hb9' := undrew hb9
  have bR9 : Hid (Box w9 (w.heap.size + 1) [.slice none 0 0, .slice none 0 0] 27) := bR7.out.below hb9' bR7.out.lt
  have bH9 : Hid (Box w9 (w.heap.size + 1 + 1) [.int .i64 0, .int .i64 0] 31) := bH7.out.below hb9' bH7.out.lt
  have hB9 : Hid (Below w.heap.size w w9) := hB7.trans (hb9'.mono hB7.size)
  have hansH : Hid (AnsA w7.drew w9 csr ⟨x.vSlots.set p ⟨x.vSlots[p].vGen, true, dt⟩, rest⟩) := hansr
  obtain ⟨_, ⟨_, _, _, _, rfl, ss, st, _⟩, _⟩ := hansr
  obtain ⟨pR, dR, rfl⟩ := ss.form
  obtain ⟨qR, eR, rfl⟩ := st.form
  simp only [List.length_set] at hansH ⊢
  clear ss st
  skip
  refine hK.out _ _ (cell_on hb9 hHeld) (fun hHeld => ?_)
  clear hK K
  refine wpAnyH_ready (rs := [8]) (by kernel_rfl) (by simp) ?_
  refine AllReadyH.cons rfl (fun K hK => ?_) AllReadyH.nil
  have u0 := bR9.out.cell 0 rfl
  have u1 := bR9.out.cell 1 rfl
  have u2 := bR9.out.unfrozen
  go_simp
  clear u0 u1 u2
  refine hK.out _ _ (cell_set (T := w.heap.size + 1) (cell_set (T := w.heap.size + 1) hHeld (by omega) _) (by omega) _) (fun hHeld => ?_)
  clear hK K
  refine wpAnyH_ready (rs := [9]) (by kernel_rfl) (by simp) ?_
  refine AllReadyH.cons rfl (fun K hK => ?_) AllReadyH.nil
  have bX2 : Hid (Box ((w9.setCell ⟨w.heap.size + 1, 0, none⟩ (.slice pR x.vSlots.length dR)).setCell ⟨w.heap.size + 1, 1, none⟩ (.slice qR rest.length eR)) (w.heap.size + 1 + 1) [.int .i64 0, .int .i64 0] 31) := (bH9.out.other (by omega) _).other (by omega) _
  have u0 := bX2.out.cell 0 rfl
  have u1 := bX2.out.cell 1 rfl
  have u2 := bX2.out.unfrozen
  go_simp
  clear u0 u1 u2
  refine hK.out _ _ (cell_set (T := w.heap.size + 1 + 1) (cell_set (T := w.heap.size + 1 + 1) hHeld (by omega) _) (by omega) _) (fun hHeld => ?_)
  clear hK K
  refine tq (i := 10) (d := 6) ?_
  simp only [sz, ss]
  refine wpAnyH_done (by kernel_rfl) ?_ _
  go_wp2_with fail
  have bRf : Hid (Box (putCells (putCells w9 (w.heap.size + 1) 0 [.slice pR x.vSlots.length dR, .slice qR rest.length eR]) (w.heap.size + 1 + 1) 0 [.int .i64 (p : Int), .int .i64 x.vSlots[p].vGen]) (w.heap.size + 1) [.slice pR x.vSlots.length dR, .slice qR rest.length eR] 27) := (((bR9.out.set _).set _).other (by omega) _).other (by omega) _
  have bHf : Hid (Box (putCells (putCells w9 (w.heap.size + 1) 0 [.slice pR x.vSlots.length dR, .slice qR rest.length eR]) (w.heap.size + 1 + 1) 0 [.int .i64 (p : Int), .int .i64 x.vSlots[p].vGen]) (w.heap.size + 1 + 1) [.int .i64 (p : Int), .int .i64 x.vSlots[p].vGen] 31) := ((((bH9.out.other (by omega) _).other (by omega) _).set _).set _)
  have e0_ := bRf.out.cell 0 rfl
  have e1_ := bRf.out.cell 1 rfl
  have e2_ := bHf.out.cell 0 rfl
  have e3_ := bHf.out.cell 1 rfl
  simp only [putCells, Nat.zero_add] at e0_ e1_ e2_ e3_
  have hBf : Hid (Below w.heap.size w (putCells (putCells w9 (w.heap.size + 1) 0 [.slice pR x.vSlots.length dR, .slice qR rest.length eR]) (w.heap.size + 1 + 1) 0 [.int .i64 (p : Int), .int .i64 x.vSlots[p].vGen])) := putCells_below _ _ _ _ _ _ (by omega) (putCells_below _ _ _ _ _ _ (by omega) hB9.out)
  have hKf : Hid (∀ b, b ≠ w.heap.size + 1 → b ≠ w.heap.size + 1 + 1 → (putCells (putCells w9 (w.heap.size + 1) 0 [.slice pR x.vSlots.length dR, .slice qR rest.length eR]) (w.heap.size + 1 + 1) 0 [.int .i64 (p : Int), .int .i64 x.vSlots[p].vGen]).heap[b]? = (World.heap w9)[b]?) := fun b n1 n2 => (putCells_other _ _ _ _ _ n2).trans (putCells_other _ _ _ _ _ n1)
  refine bodyPost_ret (v := .tuple #[.agg (List.toArray [.slice pR x.vSlots.length dR, .slice qR rest.length eR]), .agg (List.toArray [.int .i64 (p : Int), .int .i64 x.vSlots[p].vGen]), .bool true]) (by simp [results, Try.results9, go_sem, e0_, e1_, e2_, e3_]) rfl ⟨by rw [HD.out]; exact ⟨_, rfl, hansH.out.keep (fun b m => hKf.out b (by simp at m; omega) (by simp at m; omega)) (by show w.heap.size ≤ w7.heap.size; omega)⟩, hBf.out⟩
end Go.Proofs.Ytcbomaflfjdmjaa
