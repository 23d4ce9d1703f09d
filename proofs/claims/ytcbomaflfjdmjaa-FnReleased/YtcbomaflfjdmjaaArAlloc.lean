/- Allocated of the specification, walked. -/
import Derived.Test.YtcbomaflfjdmjaaArCopy
import Derived.Test.YtcbomaflfjdmjaaArSpec
namespace Go.Proofs.Ytcbomaflfjdmjaa
open Go.RowKit
/-- what Allocated answers -/
noncomputable def allocD (x : ArenaD) (dt : ByteArray) : ArenaD × Int × Int × Bool :=
  if rightB x && wordB 10 dt then
    match x.vFree with
    | [] => (nilA, 0, 0, false)
    | p :: rest => match x.vSlots[p.toNat]? with
      | none => (nilA, 0, 0, false)
      | some s => (⟨x.vSlots.set p.toNat ⟨s.vGen, true, dt⟩, rest⟩, p, s.vGen, true)
  else (nilA, 0, 0, false)
theorem allocD_wrong {x : ArenaD} {dt : ByteArray} (h : rightB x = false) : allocD x dt = (nilA, 0, 0, false) := by simp [allocD, h]
theorem allocD_word {x : ArenaD} {dt : ByteArray} (h : wordB 10 dt = false) : allocD x dt = (nilA, 0, 0, false) := by simp [allocD, h]
theorem allocD_full {x : ArenaD} {dt : ByteArray} (h : x.vFree = []) : allocD x dt = (nilA, 0, 0, false) := by
  unfold allocD; rw [h]; split <;> rfl
theorem allocD_yes {x : ArenaD} {dt : ByteArray} {p : Int} {rest : List Int} (h1 : rightB x = true) (h2 : wordB 10 dt = true) (h3 : x.vFree = p :: rest) (h4 : p.toNat < x.vSlots.length) : allocD x dt = (⟨x.vSlots.set p.toNat ⟨x.vSlots[p.toNat].vGen, true, dt⟩, rest⟩, p, x.vSlots[p.toNat].vGen, true) := by
  unfold allocD; rw [h1, h2, h3]; simp [List.getElem?_eq_getElem h4]
theorem allocD_few (x : ArenaD) (dt : ByteArray) : (allocD x dt).1.vSlots.length ≤ 12 ∧ (allocD x dt).1.vFree.length ≤ 12 := by
  unfold allocD
  cases hr : rightB x with
  | false => simp [nilA]
  | true =>
    have h := rightB_iff.1 hr
    have h1 := h.2.1
    have h2 := h.2.2.1
    cases wordB 10 dt with
    | false => simp [nilA]
    | true =>
      simp only [Bool.and_self, if_true]
      split
      · simp [nilA]
      · rename_i p rest e
        split
        · simp [nilA]
        · have : (p :: rest).length ≤ 12 := by rw [← e]; omega
          simp at this
          simp; omega
def AnsAH (w w' : World) (r : ArenaD × Int × Int × Bool) (e : Ending) : Prop := ∃ cs, e = .returned (.tuple #[.agg cs.toArray, .agg #[.int .i64 r.2.1, .int .i64 r.2.2.1], .bool r.2.2.2]) ∧ AnsA w w' cs r.1
/-- the rest of a row of numbers -/
theorem SeqAt.tail {w : World} {lo b off cap : Nat} {p : Int} {rest : List Int} {n : Nat} (h : SeqAt 1 IntAt w lo (.slice (some ⟨b, off, none⟩) n cap) (p :: rest)) : SeqAt 1 IntAt w lo (.slice (some ⟨b, off + 1, none⟩) rest.length (cap - 1)) rest := by
  obtain ⟨a', cap', e, hm, hx⟩ := h
  injection e with e1 e2 e3
  subst e1 e3
  simp only [List.length_cons] at hm hx
  obtain ⟨b', off', e, h1, h2, hc⟩ := hx (by omega)
  injection e with e
  injection e with e4 e5
  subst e4 e5
  refine ⟨_, _, rfl, by omega, fun h0 => ⟨b, off + 1, rfl, h1, h2, fun i hi => ?_⟩⟩
  obtain ⟨cs, l1, l2, l3⟩ := hc (i + 1) (by omega)
  exact ⟨cs, l1, by rw [show off + 1 + i * 1 = off + (i + 1) * 1 by omega]; exact l2, by simpa using l3⟩
set_option maxRecDepth 100000 in
set_option maxHeartbeats 4000000 in
theorem specAllocated_any {w : World} {lo : Nat} {cs : List Value} {x : ArenaD} {dt : ByteArray} (hx : ArenaAt w lo cs x) (hd : dt.size ≤ maxLen) :
    Calls Try.prog 10 #[.agg cs.toArray, .string dt] w fun e w' => AnsAH w w' (allocD x dt) e ∧ Below w.heap.size w w' := by
  have hx' : Hid (ArenaAt w lo cs x) := hx
  obtain ⟨k0, k1, rfl, s0, s1, _⟩ := hx
  obtain ⟨a0, c0, rfl⟩ := s0.form
  obtain ⟨a1, c1, rfl⟩ := s1.form
  have hdt : Hid (dt.size ≤ maxLen) := hd
  clear s0 s1 hd
  have hb0 : Below w.heap.size w (((w.alloc (.cells (List.toArray [.slice a0 x.vSlots.length c0, .slice a1 x.vFree.length c1]) 27)).alloc (.cells (List.toArray [.slice none 0 0, .slice none 0 0]) 27)).alloc (.cells (List.toArray [.int .i64 0, .int .i64 0]) 31)) := (((Below.refl _ _).alloc (Nat.le_refl _) _).alloc (by simp) _).alloc (by simp; omega) _
  have bA0 : Hid (Box (((w.alloc (.cells (List.toArray [.slice a0 x.vSlots.length c0, .slice a1 x.vFree.length c1]) 27)).alloc (.cells (List.toArray [.slice none 0 0, .slice none 0 0]) 27)).alloc (.cells (List.toArray [.int .i64 0, .int .i64 0]) 31)) w.heap.size [.slice a0 x.vSlots.length c0, .slice a1 x.vFree.length c1] 27) := ((Box.new w _ _).alloc _).alloc _
  have bR0 : Hid (Box (((w.alloc (.cells (List.toArray [.slice a0 x.vSlots.length c0, .slice a1 x.vFree.length c1]) 27)).alloc (.cells (List.toArray [.slice none 0 0, .slice none 0 0]) 27)).alloc (.cells (List.toArray [.int .i64 0, .int .i64 0]) 31)) (w.heap.size + 1) [.slice none 0 0, .slice none 0 0] 27) := by have h5 := (Box.new (w.alloc (.cells (List.toArray [.slice a0 x.vSlots.length c0, .slice a1 x.vFree.length c1]) 27)) [.slice none 0 0, .slice none 0 0] 27).alloc (.cells (List.toArray [.int .i64 0, .int .i64 0]) 31); simpa [Hid] using h5
  have bH0 : Hid (Box (((w.alloc (.cells (List.toArray [.slice a0 x.vSlots.length c0, .slice a1 x.vFree.length c1]) 27)).alloc (.cells (List.toArray [.slice none 0 0, .slice none 0 0]) 27)).alloc (.cells (List.toArray [.int .i64 0, .int .i64 0]) 31)) (w.heap.size + 1 + 1) [.int .i64 0, .int .i64 0] 31) := by have h5 := Box.new ((w.alloc (.cells (List.toArray [.slice a0 x.vSlots.length c0, .slice a1 x.vFree.length c1]) 27)).alloc (.cells (List.toArray [.slice none 0 0, .slice none 0 0]) 27)) [.int .i64 0, .int .i64 0] 31; simpa [Hid] using h5
  have hxA : Hid (ArenaAt (((w.alloc (.cells (List.toArray [.slice a0 x.vSlots.length c0, .slice a1 x.vFree.length c1]) 27)).alloc (.cells (List.toArray [.slice none 0 0, .slice none 0 0]) 27)).alloc (.cells (List.toArray [.int .i64 0, .int .i64 0]) 31)) lo [.slice a0 x.vSlots.length c0, .slice a1 x.vFree.length c1] x) := ArenaAt_stays _ _ _ lo _ _ (.of_below hb0) hx'.out
  have hno : Hid (∀ w2 : World, AnsAH w w2 (nilA, 0, 0, false) (.returned (.tuple #[.agg #[.slice none 0 0, .slice none 0 0], .agg #[.int .i64 0, .int .i64 0], .bool false]))) := fun w2 => ⟨[.slice none 0 0, .slice none 0 0], rfl, ansNil⟩
  go_enter Try.func10, Try.ntmps10
  go_wp2_with fail
  refine (specArenaOk_any hxA.out).mono ?_
  rintro e w1 ⟨rfl, hb1⟩
  have hB1 : Below w.heap.size w w1 := hb0.trans (hb1.mono hb0.size)
  have bA1 : Hid (Box w1 w.heap.size [.slice a0 x.vSlots.length c0, .slice a1 x.vFree.length c1] 27) := bA0.out.below hb1 bA0.out.lt
  have bR1 : Hid (Box w1 (w.heap.size + 1) [.slice none 0 0, .slice none 0 0] 27) := bR0.out.below hb1 bR0.out.lt
  have bH1 : Hid (Box w1 (w.heap.size + 1 + 1) [.int .i64 0, .int .i64 0] 31) := bH0.out.below hb1 bH0.out.lt
  have hz1 : w.heap.size + 1 + 1 < w1.heap.size := bH1.out.lt
  have y0 := bA1.out.cell 0 rfl
  have y1 := bA1.out.cell 1 rfl
  have q0 := bR1.out.cell 0 rfl
  have q1 := bR1.out.cell 1 rfl
  have qu := bR1.out.unfrozen
  have q3 := bH1.out.cell 0 rfl
  have q4 := bH1.out.cell 1 rfl
  have qv := bH1.out.unfrozen
  cases hR : rightB x with
  | false =>
    have HD : Hid _ := allocD_wrong (dt := dt) hR
    go_wp2_with fail
    have bRf : Hid (Box (putCells (putCells w1 (w.heap.size + 1) 0 [.slice none 0 0, .slice none 0 0]) (w.heap.size + 1 + 1) 0 [.int .i64 0, .int .i64 0]) (w.heap.size + 1) [.slice none 0 0, .slice none 0 0] 27) := (((bR1.out.set _).set _).other (by omega) _).other (by omega) _
    have bHf : Hid (Box (putCells (putCells w1 (w.heap.size + 1) 0 [.slice none 0 0, .slice none 0 0]) (w.heap.size + 1 + 1) 0 [.int .i64 0, .int .i64 0]) (w.heap.size + 1 + 1) [.int .i64 0, .int .i64 0] 31) := ((((bH1.out.other (by omega) _).other (by omega) _).set _).set _)
    have e0_ := bRf.out.cell 0 rfl
    have e1_ := bRf.out.cell 1 rfl
    have e2_ := bHf.out.cell 0 rfl
    have e3_ := bHf.out.cell 1 rfl
    simp only [putCells, Nat.zero_add] at e0_ e1_ e2_ e3_
    have hBf : Hid (Below w.heap.size w (putCells (putCells w1 (w.heap.size + 1) 0 [.slice none 0 0, .slice none 0 0]) (w.heap.size + 1 + 1) 0 [.int .i64 0, .int .i64 0])) := putCells_below _ _ _ _ _ _ (by omega) (putCells_below _ _ _ _ _ _ (by omega) hB1)
    have hKf : Hid (∀ b, b ≠ w.heap.size + 1 → b ≠ w.heap.size + 1 + 1 → (putCells (putCells w1 (w.heap.size + 1) 0 [.slice none 0 0, .slice none 0 0]) (w.heap.size + 1 + 1) 0 [.int .i64 0, .int .i64 0]).heap[b]? = (World.heap w1)[b]?) := fun b n1 n2 => (putCells_other _ _ _ _ _ n2).trans (putCells_other _ _ _ _ _ n1)
    refine bodyPost_ret (v := .tuple #[.agg (List.toArray [.slice none 0 0, .slice none 0 0]), .agg (List.toArray [.int .i64 0, .int .i64 0]), .bool false]) (by simp [results, Try.results10, go_sem, e0_, e1_, e2_, e3_]) rfl ⟨by rw [HD.out]; exact hno.out _, hBf.out⟩
  | true =>
  have hy : Hid (RightI x) := rightB_iff.1 hR
  have hn2 : x.vSlots.length ≤ 12 := hy.out.2.1
  have hn3 : x.vFree.length ≤ 12 := by have := hy.out.2.2.1; omega
  by_cases h0 : x.vFree.length = 0
  · have HD : Hid _ := allocD_full (dt := dt) (List.eq_nil_of_length_eq_zero h0)
    have h0' : ((x.vFree.length : Int) == 0) = true := by simp [h0]
    go_wp2_with fail
    have bRf : Hid (Box (putCells (putCells w1 (w.heap.size + 1) 0 [.slice none 0 0, .slice none 0 0]) (w.heap.size + 1 + 1) 0 [.int .i64 0, .int .i64 0]) (w.heap.size + 1) [.slice none 0 0, .slice none 0 0] 27) := (((bR1.out.set _).set _).other (by omega) _).other (by omega) _
    have bHf : Hid (Box (putCells (putCells w1 (w.heap.size + 1) 0 [.slice none 0 0, .slice none 0 0]) (w.heap.size + 1 + 1) 0 [.int .i64 0, .int .i64 0]) (w.heap.size + 1 + 1) [.int .i64 0, .int .i64 0] 31) := ((((bH1.out.other (by omega) _).other (by omega) _).set _).set _)
    have e0_ := bRf.out.cell 0 rfl
    have e1_ := bRf.out.cell 1 rfl
    have e2_ := bHf.out.cell 0 rfl
    have e3_ := bHf.out.cell 1 rfl
    simp only [putCells, Nat.zero_add] at e0_ e1_ e2_ e3_
    have hBf : Hid (Below w.heap.size w (putCells (putCells w1 (w.heap.size + 1) 0 [.slice none 0 0, .slice none 0 0]) (w.heap.size + 1 + 1) 0 [.int .i64 0, .int .i64 0])) := putCells_below _ _ _ _ _ _ (by omega) (putCells_below _ _ _ _ _ _ (by omega) hB1)
    have hKf : Hid (∀ b, b ≠ w.heap.size + 1 → b ≠ w.heap.size + 1 + 1 → (putCells (putCells w1 (w.heap.size + 1) 0 [.slice none 0 0, .slice none 0 0]) (w.heap.size + 1 + 1) 0 [.int .i64 0, .int .i64 0]).heap[b]? = (World.heap w1)[b]?) := fun b n1 n2 => (putCells_other _ _ _ _ _ n2).trans (putCells_other _ _ _ _ _ n1)
    refine bodyPost_ret (v := .tuple #[.agg (List.toArray [.slice none 0 0, .slice none 0 0]), .agg (List.toArray [.int .i64 0, .int .i64 0]), .bool false]) (by simp [results, Try.results10, go_sem, e0_, e1_, e2_, e3_]) rfl ⟨by rw [HD.out]; exact hno.out _, hBf.out⟩
  have h0' : ((x.vFree.length : Int) == 0) = false := by simpa using h0
  go_wp2_with fail
  refine (l8Plain_any _ _ _ hdt.out).mono ?_
  rintro e w1_ ⟨rfl, rfl⟩
  cases hW : wordB 10 dt with
  | false =>
    have HD : Hid _ := allocD_word (x := x) hW
    go_wp2_with fail
    have bRf : Hid (Box (putCells (putCells w1_ (w.heap.size + 1) 0 [.slice none 0 0, .slice none 0 0]) (w.heap.size + 1 + 1) 0 [.int .i64 0, .int .i64 0]) (w.heap.size + 1) [.slice none 0 0, .slice none 0 0] 27) := (((bR1.out.set _).set _).other (by omega) _).other (by omega) _
    have bHf : Hid (Box (putCells (putCells w1_ (w.heap.size + 1) 0 [.slice none 0 0, .slice none 0 0]) (w.heap.size + 1 + 1) 0 [.int .i64 0, .int .i64 0]) (w.heap.size + 1 + 1) [.int .i64 0, .int .i64 0] 31) := ((((bH1.out.other (by omega) _).other (by omega) _).set _).set _)
    have e0_ := bRf.out.cell 0 rfl
    have e1_ := bRf.out.cell 1 rfl
    have e2_ := bHf.out.cell 0 rfl
    have e3_ := bHf.out.cell 1 rfl
    simp only [putCells, Nat.zero_add] at e0_ e1_ e2_ e3_
    have hBf : Hid (Below w.heap.size w (putCells (putCells w1_ (w.heap.size + 1) 0 [.slice none 0 0, .slice none 0 0]) (w.heap.size + 1 + 1) 0 [.int .i64 0, .int .i64 0])) := putCells_below _ _ _ _ _ _ (by omega) (putCells_below _ _ _ _ _ _ (by omega) hB1)
    have hKf : Hid (∀ b, b ≠ w.heap.size + 1 → b ≠ w.heap.size + 1 + 1 → (putCells (putCells w1_ (w.heap.size + 1) 0 [.slice none 0 0, .slice none 0 0]) (w.heap.size + 1 + 1) 0 [.int .i64 0, .int .i64 0]).heap[b]? = (World.heap w1_)[b]?) := fun b n1 n2 => (putCells_other _ _ _ _ _ n2).trans (putCells_other _ _ _ _ _ n1)
    refine bodyPost_ret (v := .tuple #[.agg (List.toArray [.slice none 0 0, .slice none 0 0]), .agg (List.toArray [.int .i64 0, .int .i64 0]), .bool false]) (by simp [results, Try.results10, go_sem, e0_, e1_, e2_, e3_]) rfl ⟨by rw [HD.out]; exact hno.out _, hBf.out⟩
  | true =>
  obtain ⟨p0, rest, hfr⟩ : ∃ p0 rest, x.vFree = p0 :: rest := by
    cases hh : x.vFree with
    | nil => rw [hh] at h0; simp at h0
    | cons p0 rest => exact ⟨p0, rest, rfl⟩
  have hlenH : Hid (x.vFree.length = rest.length + 1) := by show _ = _; rw [hfr]; simp
  obtain ⟨hp0, ⟨hp1, _⟩, _⟩ := hy.out.2.2.2.2.1 0 (by rw [hlenH.out]; omega) (by rw [hlenH.out]; omega)
  have hg0 : x.vFree[0]'(by rw [hlenH.out]; omega) = p0 := by simp [hfr]
  rw [hg0] at hp0
  simp only [hg0] at hp1
  have HD0 := allocD_yes hR hW hfr hp1
  obtain ⟨p, rfl⟩ : ∃ p : Nat, p0 = (p : Int) := ⟨p0.toNat, by omega⟩
  simp only [Int.toNat_natCast] at hp1 HD0
  have HD : Hid _ := HD0
  have hfrH : Hid (x.vFree = (p : Int) :: rest) := hfr
  clear HD0 hg0 h0 h0' hp0 hfr
  go_wp2_with fail
  refine (l11Copy_any (ArenaAt_stays _ _ _ lo _ _ (.of_below hb1) hxA.out) hn2 hn3).mono ?_
  rintro e w2 ⟨⟨csc, rfl, fs, hown, hnd, hlw⟩, hb2⟩
  have hB2 : Below w.heap.size w w2 := hB1.trans (hb2.mono hB1.size)
  have bA2 : Hid (Box w2 w.heap.size [.slice a0 x.vSlots.length c0, .slice a1 x.vFree.length c1] 27) := bA1.out.below hb2 bA1.out.lt
  have bR2 : Hid (Box w2 (w.heap.size + 1) [.slice none 0 0, .slice none 0 0] 27) := bR1.out.below hb2 bR1.out.lt
  have bH2 : Hid (Box w2 (w.heap.size + 1 + 1) [.int .i64 0, .int .i64 0] 31) := bH1.out.below hb2 bH1.out.lt
  obtain ⟨kS, kF, f0, f1, rfl, oS0, oF0, rfl⟩ := hown
  have hap : Hid (∀ b ∈ f0, b ∉ f1) := fun b m1 m2 => (List.nodup_append.1 hnd).2.2 b m1 b m2 rfl
  have hlS : Hid (∀ b ∈ f0, w1_.heap.size ≤ b ∧ b < w2.heap.size) := fun b m => ⟨hlw b (List.mem_append_left _ m), oS0.lt SlotOwn_lt b m⟩
  have hlF : Hid (∀ b ∈ f1, w1_.heap.size ≤ b ∧ b < w2.heap.size) := fun b m => ⟨hlw b (List.mem_append_right _ m), oF0.lt intOwn_lt b m⟩
  obtain ⟨pS, dS, rfl⟩ := oS0.form
  obtain ⟨pF, dF, rfl⟩ := oF0.form
  obtain ⟨bS, oS, C, Tt, csS, fj, rfl, hrow, hcl, ⟨mB, mN, _, _⟩, hr, hclose⟩ := oS0.step SlotOwn_stays SlotOwn_lt hp1
  obtain ⟨bF, oF, _, _, csF, _, rfl, hrowF, _, ⟨mF, _, _, _⟩, hrF, _⟩ := oF0.step intOwn_stays intOwn_lt (j := 0) (by rw [hlenH.out]; omega)
  obtain ⟨rfl, rI, _⟩ := hrF
  have hg1 : x.vFree[0]'(by rw [hlenH.out]; omega) = (p : Int) := by simp [hfrH.out]
  rw [hg1] at hrowF
  have zF := hrowF.cell 0 rfl
  simp only [Nat.zero_mul, Nat.add_zero] at zF
  have hsF0 : SeqAt 1 IntAt w2 0 (.slice (some ⟨bF, oF, none⟩) (rest.length + 1) dF) ((p : Int) :: rest) := by rw [← hfrH.out, ← hlenH.out]; exact oF0.at intOwn_at (fun _ _ => Nat.zero_le _)
  have hcapF : rest.length + 1 ≤ dF := by obtain ⟨_, _, e, hm, _⟩ := hsF0; injection e with _ _ e3; subst e3; have := hm.2; simpa using this
  have hTail : Hid (∀ oT cT, (dF = 1 ∧ oT = oF ∧ cT = 0) ∨ (¬ dF = 1 ∧ oT = oF + 1 ∧ cT = dF - 1) → SeqAt 1 IntAt w2 0 (.slice (some ⟨bF, oT, none⟩) rest.length cT) rest) := by
    intro oT cT h
    rcases h with ⟨e1, rfl, rfl⟩ | ⟨_, rfl, rfl⟩
    · have e2 : rest = [] := List.eq_nil_of_length_eq_zero (by omega)
      subst e2
      exact ⟨_, _, rfl, by simp, fun h0 => absurd h0 (by simp)⟩
    · exact hsF0.tail
  have hcapH : Hid (rest.length + 1 ≤ dF) := hcapF
  clear hcapF
  have hrange : Hid (InI x.vSlots[p].vGen ∧ x.vSlots[p].vData.size ≤ maxLen) := ⟨hr.2.1, hr.2.2.1⟩
  have hclose' : Hid _ := hclose
  obtain ⟨rfl, _, _, rfl⟩ := hr
  have hrow' : Hid (RowIs w2 bS (oS + p * 3) C Tt [.int .i64 x.vSlots[p].vGen, .bool x.vSlots[p].vUsed, .string x.vSlots[p].vData]) := hrow
  have hS1 := (hlS.out bS mB).1
  have hF1 := (hlF.out bF mF).1
  have hS2 := (hlS.out bS mB).2
  have hF2 := (hlF.out bF mF).2
  have hSF : bS ≠ bF := fun e => hap.out bS mB (e ▸ mF)
  have hlen := hlenH.out
  have hlt2 : w1_.heap.size ≤ w2.heap.size := hb2.size
  clear hrow hclose hsF0 oF0 hnd hlw hrowF mN hcl
  have hp2 : (p : Int) < (x.vSlots.length : Int) := by omega
  have hp3 : (0 : Int) ≤ (p : Int) := by omega
  have bT : Hid (Box (w2.alloc (.cells (List.toArray [.slice (some ⟨bS, oS, none⟩) x.vSlots.length dS, .slice (some ⟨bF, oF, none⟩) (rest.length + 1) dF]) 27)) w2.heap.size [.slice (some ⟨bS, oS, none⟩) x.vSlots.length dS, .slice (some ⟨bF, oF, none⟩) (rest.length + 1) dF] 27) := Box.new w2 _ _
  have hBT : Below w2.heap.size w2 (w2.alloc (.cells (List.toArray [.slice (some ⟨bS, oS, none⟩) x.vSlots.length dS, .slice (some ⟨bF, oF, none⟩) (rest.length + 1) dF]) 27)) := (Below.refl _ _).alloc (Nat.le_refl _) _
  have hBE : Below w2.heap.size w2 ((w2.alloc (.cells (List.toArray [.slice (some ⟨bS, oS, none⟩) x.vSlots.length dS, .slice (some ⟨bF, oF, none⟩) (rest.length + 1) dF]) 27)).alloc (.cells #[] 2)) := hBT.alloc (by simp) _
  have zFT : (w2.alloc (.cells (List.toArray [.slice (some ⟨bS, oS, none⟩) x.vSlots.length dS, .slice (some ⟨bF, oF, none⟩) (rest.length + 1) dF]) 27)).cell? ⟨bF, oF, none⟩ = some (.int .i64 (p : Int)) := cell_alloc zF _
  have rE : Hid (World.ownsRow ((w2.alloc (.cells (List.toArray [.slice (some ⟨bS, oS, none⟩) x.vSlots.length dS, .slice (some ⟨bF, oF, none⟩) (rest.length + 1) dF]) 27)).alloc (.cells #[] 2)) (w2.heap.size + 1) 2 1 (.slice (some ⟨w2.heap.size + 1, 0, none⟩) 0 0) 0 []) := by have h5 := row_new (w := (w2.alloc (.cells (List.toArray [.slice (some ⟨bS, oS, none⟩) x.vSlots.length dS, .slice (some ⟨bF, oF, none⟩) (rest.length + 1) dF]) 27))) (B := w2.heap.size + 1) (T := 2) (c := 1) (by simp); simpa [Hid] using h5
  have bTE : Hid (Box ((w2.alloc (.cells (List.toArray [.slice (some ⟨bS, oS, none⟩) x.vSlots.length dS, .slice (some ⟨bF, oF, none⟩) (rest.length + 1) dF]) 27)).alloc (.cells #[] 2)) w2.heap.size [.slice (some ⟨bS, oS, none⟩) x.vSlots.length dS, .slice (some ⟨bF, oF, none⟩) (rest.length + 1) dF] 27) := bT.out.alloc _
  obtain ⟨iI, hI0, hI1, hI2, hI3⟩ := infoI2
  have hiI : Hid (Try.prog.info? 2 = some iI) := hI0
  have heI : Hid (iI.zero = some (.int .i64 0) ∧ iI.size = 1 ∧ iI.bytes = 8) := ⟨hI1, hI2, hI3⟩
  clear hI0 hI1 hI2 hI3 zF
  by_cases hd1 : dF = 1
  · subst hd1
    have hTl := hTail.out (oF) (0) (Or.inl ⟨rfl, rfl, rfl⟩)
    obtain ⟨cssR, hcR⟩ := seq_css (by decide) hTl
    have hcE : Hid (CssAt 1 IntAt ((w2.alloc (.cells (List.toArray [.slice (some ⟨bS, oS, none⟩) x.vSlots.length dS, .slice (some ⟨bF, oF, none⟩) (rest.length + 1) 1]) 27)).alloc (.cells #[] 2)) 0 (some ⟨bF, oF, none⟩) rest cssR) := css_below intAt_stays hcR hBE (Below.refl _ _)
    have hcR' : Hid (CssAt 1 IntAt w2 0 (some ⟨bF, oF, none⟩) rest cssR) := hcR
    clear hTl hcR
    go_wp2_with (at_builtin; refine wpList_append_rows (w := ((w2.alloc (.cells (List.toArray [.slice (some ⟨bS, oS, none⟩) x.vSlots.length dS, .slice (some ⟨bF, oF, none⟩) (rest.length + 1) 1]) 27)).alloc (.cells #[] 2))) (R := IntAt) rfl _ _ 25 rfl (w2.heap.size + 1) 0 2 iI _ 8 Try.underlying25 hiI.out heI.out.1 heI.out.2.1 heI.out.2.2 rfl (by decide) (.slice (some ⟨w2.heap.size + 1, 0, none⟩) 0 0) 0 [] rfl (by simp) rE.out (some ⟨bF, oF, none⟩) (0) rest cssR rfl hcE.out (fun cs hcs u hu => one_of_int hcE.out cs hcs u hu) (by unfold maxLen; omega) (by omega) (by simp) ?_; intro vN w5 ho5 hg5 hn5 hat5; rw [Nat.zero_add, List.nil_append] at ho5; obtain ⟨pN, dN, rfl⟩ := row_form ho5; have rN5 : Hid (World.ownsRow w5 (w2.heap.size + 1) 2 1 (.slice pN rest.length dN) rest.length cssR.flatten) := ho5; have hB5 : Below (w2.heap.size + 1) ((w2.alloc (.cells (List.toArray [.slice (some ⟨bS, oS, none⟩) x.vSlots.length dS, .slice (some ⟨bF, oF, none⟩) (rest.length + 1) 1]) 27)).alloc (.cells #[] 2)) w5 := (Below.refl _ _).grown hg5 (by simp) (fun k e => own_block2 rE.out k e); have hB5h : Hid _ := hB5; have bT5 : Hid (Box w5 w2.heap.size [.slice (some ⟨bS, oS, none⟩) x.vSlots.length dS, .slice (some ⟨bF, oF, none⟩) (rest.length + 1) 1] 27) := (hB5.block _ (by omega)).trans bTE.out; have yT0 := bT5.out.cell 0 rfl; have yT1 := bT5.out.cell 1 rfl; have yTu := bT5.out.unfrozen; have hK5 : Hid (∀ b, b < w2.heap.size → w5.heap[b]? = w2.heap[b]?) := fun b hb => (hB5.block b (by omega)).trans (hBE.block b hb); have row5 : Hid (RowIs w5 bS (oS + p * 3) C Tt [.int .i64 x.vSlots[p].vGen, .bool x.vSlots[p].vUsed, .string x.vSlots[p].vData]) := hrow'.out.keep (hK5.out bS hS2); have row6 : Hid (RowIs (w5.setCell ⟨w2.heap.size, 1, none⟩ (.slice pN rest.length dN)) bS (oS + p * 3) C Tt [.int .i64 x.vSlots[p].vGen, .bool x.vSlots[p].vUsed, .string x.vSlots[p].vData]) := row5.out.keep (set_other (by omega) _); have x0_ := row6.out.cell 0 rfl; have x1_ := row6.out.cell 1 rfl; have x2_ := row6.out.cell 2 rfl; have xu_ := row6.out.unfrozen; simp only [Nat.add_zero] at x0_; have bT6 : Hid (Box (w5.setCell ⟨w2.heap.size, 1, none⟩ (.slice pN rest.length dN)) w2.heap.size [.slice (some ⟨bS, oS, none⟩) x.vSlots.length dS, .slice pN rest.length dN] 27) := bT5.out.set _; have t60 := bT6.out.cell 0 rfl; have t61 := bT6.out.cell 1 rfl; have t6u := bT6.out.unfrozen; have row7 : Hid (RowIs ((w5.setCell ⟨w2.heap.size, 1, none⟩ (.slice pN rest.length dN)).setCell ⟨bS, oS + p * 3 + 1, none⟩ (.bool true)) bS (oS + p * 3) C Tt [.int .i64 x.vSlots[p].vGen, .bool true, .string x.vSlots[p].vData]) := row6.out.set (m := 1) (by simp) _; have row8 : Hid (RowIs (((w5.setCell ⟨w2.heap.size, 1, none⟩ (.slice pN rest.length dN)).setCell ⟨bS, oS + p * 3 + 1, none⟩ (.bool true)).setCell ⟨bS, oS + p * 3 + 2, none⟩ (.string dt)) bS (oS + p * 3) C Tt [.int .i64 x.vSlots[p].vGen, .bool true, .string dt]) := row7.out.set (m := 2) (by simp) _; have x70 := row7.out.cell 0 rfl; have x71 := row7.out.cell 1 rfl; have x72 := row7.out.cell 2 rfl; have x7u := row7.out.unfrozen; have bT7 : Hid (Box ((w5.setCell ⟨w2.heap.size, 1, none⟩ (.slice pN rest.length dN)).setCell ⟨bS, oS + p * 3 + 1, none⟩ (.bool true)) w2.heap.size [.slice (some ⟨bS, oS, none⟩) x.vSlots.length dS, .slice pN rest.length dN] 27) := bT6.out.other (by omega) _; have t70 := bT7.out.cell 0 rfl; have bT8 : Hid (Box (((w5.setCell ⟨w2.heap.size, 1, none⟩ (.slice pN rest.length dN)).setCell ⟨bS, oS + p * 3 + 1, none⟩ (.bool true)).setCell ⟨bS, oS + p * 3 + 2, none⟩ (.string dt)) w2.heap.size [.slice (some ⟨bS, oS, none⟩) x.vSlots.length dS, .slice pN rest.length dN] 27) := bT7.out.other (by omega) _; clear ho5 yT0)
    have h5b : Below w2.heap.size w2 w5 := hBE.trans (hB5h.out.mono (by omega))
    have h6b : Below w2.heap.size w2 (w5.setCell ⟨w2.heap.size, 1, none⟩ (.slice pN rest.length dN)) := h5b.setCell (by exact Nat.le_refl _) _
    have hO8 : Out [bS] w2 (((w5.setCell ⟨w2.heap.size, 1, none⟩ (.slice pN rest.length dN)).setCell ⟨bS, oS + p * 3 + 1, none⟩ (.bool true)).setCell ⟨bS, oS + p * 3 + 2, none⟩ (.string dt)) := ((Out.of_below h6b).set (by simp) _).set (by simp) _
    have hB8 : Below w.heap.size w (((w5.setCell ⟨w2.heap.size, 1, none⟩ (.slice pN rest.length dN)).setCell ⟨bS, oS + p * 3 + 1, none⟩ (.bool true)).setCell ⟨bS, oS + p * 3 + 2, none⟩ (.string dt)) := hB2.trans (hO8.below hB2.size (fun b m => by simp at m; subst m; omega))
    have hSeqS := hclose'.out (((w5.setCell ⟨w2.heap.size, 1, none⟩ (.slice pN rest.length dN)).setCell ⟨bS, oS + p * 3 + 1, none⟩ (.bool true)).setCell ⟨bS, oS + p * 3 + 2, none⟩ (.string dt)) [.int .i64 x.vSlots[p].vGen, .bool true, .string dt] ⟨x.vSlots[p].vGen, true, dt⟩ rfl row8.out hO8 ⟨rfl, hrange.out.1, hdt.out, rfl⟩
    obtain ⟨ffN, hI5, hIl, hIo⟩ := flat_of_css (O := IntOwn) hcR'.out rN5.out (fun cs x h => int_own h)
    have hSeqI : SeqOwn 1 IntOwn (((w5.setCell ⟨w2.heap.size, 1, none⟩ (.slice pN rest.length dN)).setCell ⟨bS, oS + p * 3 + 1, none⟩ (.bool true)).setCell ⟨bS, oS + p * 3 + 2, none⟩ (.string dt)) (.slice pN rest.length dN) rest ffN := hI5.stays intOwn_stays (fun b m => by have l1 := hIl b m; exact ((set_other (by omega) _).trans (set_other (by omega) _)).trans (set_other (by omega) _))
    have hans : Hid (∀ w', (∀ b, b ≠ w.heap.size + 1 → b ≠ w.heap.size + 1 + 1 → w'.heap[b]? = (((w5.setCell ⟨w2.heap.size, 1, none⟩ (.slice pN rest.length dN)).setCell ⟨bS, oS + p * 3 + 1, none⟩ (.bool true)).setCell ⟨bS, oS + p * 3 + 2, none⟩ (.string dt)).heap[b]?) → AnsA w w' [.slice (some ⟨bS, oS, none⟩) x.vSlots.length dS, .slice pN rest.length dN] ⟨x.vSlots.set p ⟨x.vSlots[p].vGen, true, dt⟩, rest⟩) := fun w' k => by
      have hl : (x.vSlots.set p ⟨x.vSlots[p].vGen, true, dt⟩).length = x.vSlots.length := by simp
      refine ansRows (base := w1_.heap.size) (hSeqS.stays SlotOwn_stays (fun b m => ?_)) (hSeqI.stays intOwn_stays (fun b m => ?_)) (fun b m => (hlS.out b m).1) (fun b m => ?_) (by omega) (fun b m1 m2 => ?_)
      · have := (hlS.out b m).1; exact k b (by omega) (by omega)
      · have := hIl b m; exact k b (by omega) (by omega)
      · have := hIl b m; omega
      · have h1 := (hlS.out b m1).2; have h2 := hIl b m2; omega
    have bR8 : Hid (Box (((w5.setCell ⟨w2.heap.size, 1, none⟩ (.slice pN rest.length dN)).setCell ⟨bS, oS + p * 3 + 1, none⟩ (.bool true)).setCell ⟨bS, oS + p * 3 + 2, none⟩ (.string dt)) (w.heap.size + 1) [.slice none 0 0, .slice none 0 0] 27) := ((hO8.keep bR2.out.lt (by simp; omega)).trans bR2.out)
    have bH8 : Hid (Box (((w5.setCell ⟨w2.heap.size, 1, none⟩ (.slice pN rest.length dN)).setCell ⟨bS, oS + p * 3 + 1, none⟩ (.bool true)).setCell ⟨bS, oS + p * 3 + 2, none⟩ (.string dt)) (w.heap.size + 1 + 1) [.int .i64 0, .int .i64 0] 31) := ((hO8.keep bH2.out.lt (by simp; omega)).trans bH2.out)
    have v0_ := bT8.out.cell 0 rfl
    have v1_ := bT8.out.cell 1 rfl
    have v2_ := row8.out.cell 0 rfl
    simp only [Nat.add_zero] at v2_
    clear hSeqS hSeqI hI5 hO8
    generalize (((w5.setCell ⟨w2.heap.size, 1, none⟩ (.slice pN rest.length dN)).setCell ⟨bS, oS + p * 3 + 1, none⟩ (.bool true)).setCell ⟨bS, oS + p * 3 + 2, none⟩ (.string dt)) = w8 at bR8 bH8 v0_ v1_ v2_ hans hB8 ⊢
    refine wp_region_held_drew (S := fun w' => w'.cell? ⟨w2.heap.size, 0, none⟩ = some (.slice (some ⟨bS, oS, none⟩) x.vSlots.length dS) ∧ w'.cell? ⟨w2.heap.size, 1, none⟩ = some (.slice pN rest.length dN) ∧ w'.cell? ⟨bS, oS + p * 3, none⟩ = some (.int .i64 x.vSlots[p].vGen)) (by kernel_rfl) ⟨v0_, v1_, v2_⟩ (fun hHeld => ?_)
    refine tq (i := 0) (d := 48) ?_
    simp only [sz, ss]
    refine tq (i := 1) (d := 49) ?_
    simp only [sz, ss]
    refine tq (i := 2) (d := 50) ?_
    simp only [sz, ss]
    refine tq (i := 3) (d := 51) ?_
    simp only [sz, ss]
    refine tq (i := 4) (d := 52) ?_
    simp only [sz, ss]
    refine tq (i := 5) (d := 53) ?_
    simp only [sz, ss]
    refine tq (i := 6) (d := 54) ?_
    simp only [sz, ss]
    refine tq (i := 7) (d := 55) ?_
    simp only [sz, ss]
    refine tq (i := 8) (d := 56) ?_
    simp only [sz, ss]
    refine wpAnyH_ready (rs := [9]) (by kernel_rfl) (by simp) ?_
    refine AllReadyH.cons rfl (fun K hK => ?_) AllReadyH.nil
    have u0 : w8.drew.cell? ⟨w.heap.size + 1, 0, none⟩ = some (.slice none 0 0) := bR8.out.cell 0 rfl
    have u2 : ∀ i, w8.drew.frozen? ⟨w.heap.size + 1, i, none⟩ = false := bR8.out.unfrozen
    have bX1 : Hid (Box (w8.setCell ⟨w.heap.size + 1, 0, none⟩ (.slice (some ⟨bS, oS, none⟩) x.vSlots.length dS)) (w.heap.size + 1) [.slice (some ⟨bS, oS, none⟩) x.vSlots.length dS, .slice none 0 0] 27) := bR8.out.set _
    have u3 : (w8.setCell ⟨w.heap.size + 1, 0, none⟩ (.slice (some ⟨bS, oS, none⟩) x.vSlots.length dS)).drew.cell? ⟨w.heap.size + 1, 1, none⟩ = some (.slice none 0 0) := bX1.out.cell 1 rfl
    have u4 : ∀ i, (w8.setCell ⟨w.heap.size + 1, 0, none⟩ (.slice (some ⟨bS, oS, none⟩) x.vSlots.length dS)).drew.frozen? ⟨w.heap.size + 1, i, none⟩ = false := bX1.out.unfrozen
    go_simp
    clear u0 u2 u3 u4
    refine hK.out _ _ ⟨cell_set (T := w.heap.size + 1) (cell_set (T := w.heap.size + 1) hHeld.1 (by omega) _) (by omega) _, cell_set (T := w.heap.size + 1) (cell_set (T := w.heap.size + 1) hHeld.2.1 (by omega) _) (by omega) _, cell_set (T := w.heap.size + 1) (cell_set (T := w.heap.size + 1) hHeld.2.2 (by omega) _) (by omega) _⟩ (fun hHeld => ?_)
    clear hK K
    refine wpAnyH_ready (rs := [10]) (by kernel_rfl) (by simp) ?_
    refine AllReadyH.cons rfl (fun K hK => ?_) AllReadyH.nil
    have bX2 : Hid (Box ((w8.setCell ⟨w.heap.size + 1, 0, none⟩ (.slice (some ⟨bS, oS, none⟩) x.vSlots.length dS)).setCell ⟨w.heap.size + 1, 1, none⟩ (.slice pN rest.length dN)) (w.heap.size + 1 + 1) [.int .i64 0, .int .i64 0] 31) := (bH8.out.other (by omega) _).other (by omega) _
    have u0 : ((w8.setCell ⟨w.heap.size + 1, 0, none⟩ (.slice (some ⟨bS, oS, none⟩) x.vSlots.length dS)).setCell ⟨w.heap.size + 1, 1, none⟩ (.slice pN rest.length dN)).drew.cell? ⟨w.heap.size + 1 + 1, 0, none⟩ = some (.int .i64 0) := bX2.out.cell 0 rfl
    have u2 : ∀ i, ((w8.setCell ⟨w.heap.size + 1, 0, none⟩ (.slice (some ⟨bS, oS, none⟩) x.vSlots.length dS)).setCell ⟨w.heap.size + 1, 1, none⟩ (.slice pN rest.length dN)).drew.frozen? ⟨w.heap.size + 1 + 1, i, none⟩ = false := bX2.out.unfrozen
    have bX3 : Hid (Box (((w8.setCell ⟨w.heap.size + 1, 0, none⟩ (.slice (some ⟨bS, oS, none⟩) x.vSlots.length dS)).setCell ⟨w.heap.size + 1, 1, none⟩ (.slice pN rest.length dN)).setCell ⟨w.heap.size + 1 + 1, 0, none⟩ (.int .i64 (p : Int))) (w.heap.size + 1 + 1) [.int .i64 (p : Int), .int .i64 0] 31) := bX2.out.set _
    have u3 : (((w8.setCell ⟨w.heap.size + 1, 0, none⟩ (.slice (some ⟨bS, oS, none⟩) x.vSlots.length dS)).setCell ⟨w.heap.size + 1, 1, none⟩ (.slice pN rest.length dN)).setCell ⟨w.heap.size + 1 + 1, 0, none⟩ (.int .i64 (p : Int))).drew.cell? ⟨w.heap.size + 1 + 1, 1, none⟩ = some (.int .i64 0) := bX3.out.cell 1 rfl
    have u4 : ∀ i, (((w8.setCell ⟨w.heap.size + 1, 0, none⟩ (.slice (some ⟨bS, oS, none⟩) x.vSlots.length dS)).setCell ⟨w.heap.size + 1, 1, none⟩ (.slice pN rest.length dN)).setCell ⟨w.heap.size + 1 + 1, 0, none⟩ (.int .i64 (p : Int))).drew.frozen? ⟨w.heap.size + 1 + 1, i, none⟩ = false := bX3.out.unfrozen
    go_simp
    clear u0 u2 u3 u4
    refine hK.out _ _ ⟨cell_set (T := w.heap.size + 1 + 1) (cell_set (T := w.heap.size + 1 + 1) hHeld.1 (by omega) _) (by omega) _, cell_set (T := w.heap.size + 1 + 1) (cell_set (T := w.heap.size + 1 + 1) hHeld.2.1 (by omega) _) (by omega) _, cell_set (T := w.heap.size + 1 + 1) (cell_set (T := w.heap.size + 1 + 1) hHeld.2.2 (by omega) _) (by omega) _⟩ (fun hHeld => ?_)
    clear hK K
    refine tq (i := 11) (d := 6) ?_
    simp only [sz, ss]
    refine wpAnyH_done (by kernel_rfl) ?_ _
    go_wp2_with fail
    have bRf : Hid (Box (putCells (putCells w8 (w.heap.size + 1) 0 [.slice (some ⟨bS, oS, none⟩) x.vSlots.length dS, .slice pN rest.length dN]) (w.heap.size + 1 + 1) 0 [.int .i64 (p : Int), .int .i64 x.vSlots[p].vGen]).drew (w.heap.size + 1) [.slice (some ⟨bS, oS, none⟩) x.vSlots.length dS, .slice pN rest.length dN] 27) := (((bR8.out.set _).set _).other (by omega) _).other (by omega) _
    have bHf : Hid (Box (putCells (putCells w8 (w.heap.size + 1) 0 [.slice (some ⟨bS, oS, none⟩) x.vSlots.length dS, .slice pN rest.length dN]) (w.heap.size + 1 + 1) 0 [.int .i64 (p : Int), .int .i64 x.vSlots[p].vGen]).drew (w.heap.size + 1 + 1) [.int .i64 (p : Int), .int .i64 x.vSlots[p].vGen] 31) := ((((bH8.out.other (by omega) _).other (by omega) _).set _).set _)
    have e0_ := bRf.out.cell 0 rfl
    have e1_ := bRf.out.cell 1 rfl
    have e2_ := bHf.out.cell 0 rfl
    have e3_ := bHf.out.cell 1 rfl
    simp only [putCells, Nat.zero_add] at e0_ e1_ e2_ e3_
    have hBf : Hid (Below w.heap.size w (putCells (putCells w8 (w.heap.size + 1) 0 [.slice (some ⟨bS, oS, none⟩) x.vSlots.length dS, .slice pN rest.length dN]) (w.heap.size + 1 + 1) 0 [.int .i64 (p : Int), .int .i64 x.vSlots[p].vGen]).drew) := Below.drew (putCells_below _ _ _ _ _ _ (by omega) (putCells_below _ _ _ _ _ _ (by omega) hB8))
    have hKf : Hid (∀ b, b ≠ w.heap.size + 1 → b ≠ w.heap.size + 1 + 1 → (putCells (putCells w8 (w.heap.size + 1) 0 [.slice (some ⟨bS, oS, none⟩) x.vSlots.length dS, .slice pN rest.length dN]) (w.heap.size + 1 + 1) 0 [.int .i64 (p : Int), .int .i64 x.vSlots[p].vGen]).drew.heap[b]? = (World.heap w8)[b]?) := fun b n1 n2 => (putCells_other _ _ _ _ _ n2).trans (putCells_other _ _ _ _ _ n1)
    refine bodyPost_ret (v := .tuple #[.agg (List.toArray [.slice (some ⟨bS, oS, none⟩) x.vSlots.length dS, .slice pN rest.length dN]), .agg (List.toArray [.int .i64 (p : Int), .int .i64 x.vSlots[p].vGen]), .bool true]) (by simp [results, Try.results10, go_sem, e0_, e1_, e2_, e3_]) rfl ⟨by rw [HD.out]; exact ⟨_, rfl, hans.out _ (fun b n1 n2 => hKf.out b n1 n2)⟩, hBf.out⟩
  have hTl := hTail.out (oF + 1) (dF - 1) (Or.inr ⟨hd1, rfl, rfl⟩)
  obtain ⟨cssR, hcR⟩ := seq_css (by decide) hTl
  have hcE : Hid (CssAt 1 IntAt ((w2.alloc (.cells (List.toArray [.slice (some ⟨bS, oS, none⟩) x.vSlots.length dS, .slice (some ⟨bF, oF, none⟩) (rest.length + 1) dF]) 27)).alloc (.cells #[] 2)) 0 (some ⟨bF, oF + 1, none⟩) rest cssR) := css_below intAt_stays hcR hBE (Below.refl _ _)
  have hcR' : Hid (CssAt 1 IntAt w2 0 (some ⟨bF, oF + 1, none⟩) rest cssR) := hcR
  clear hTl hcR
  go_wp2_with (at_builtin; refine wpList_append_rows (w := ((w2.alloc (.cells (List.toArray [.slice (some ⟨bS, oS, none⟩) x.vSlots.length dS, .slice (some ⟨bF, oF, none⟩) (rest.length + 1) dF]) 27)).alloc (.cells #[] 2))) (R := IntAt) rfl _ _ 25 rfl (w2.heap.size + 1) 0 2 iI _ 8 Try.underlying25 hiI.out heI.out.1 heI.out.2.1 heI.out.2.2 rfl (by decide) (.slice (some ⟨w2.heap.size + 1, 0, none⟩) 0 0) 0 [] rfl (by simp) rE.out (some ⟨bF, oF + 1, none⟩) (dF - 1) rest cssR rfl hcE.out (fun cs hcs u hu => one_of_int hcE.out cs hcs u hu) (by unfold maxLen; omega) (by omega) (by simp) ?_; intro vN w5 ho5 hg5 hn5 hat5; rw [Nat.zero_add, List.nil_append] at ho5; obtain ⟨pN, dN, rfl⟩ := row_form ho5; have rN5 : Hid (World.ownsRow w5 (w2.heap.size + 1) 2 1 (.slice pN rest.length dN) rest.length cssR.flatten) := ho5; have hB5 : Below (w2.heap.size + 1) ((w2.alloc (.cells (List.toArray [.slice (some ⟨bS, oS, none⟩) x.vSlots.length dS, .slice (some ⟨bF, oF, none⟩) (rest.length + 1) dF]) 27)).alloc (.cells #[] 2)) w5 := (Below.refl _ _).grown hg5 (by simp) (fun k e => own_block2 rE.out k e); have hB5h : Hid _ := hB5; have bT5 : Hid (Box w5 w2.heap.size [.slice (some ⟨bS, oS, none⟩) x.vSlots.length dS, .slice (some ⟨bF, oF, none⟩) (rest.length + 1) dF] 27) := (hB5.block _ (by omega)).trans bTE.out; have yT0 := bT5.out.cell 0 rfl; have yT1 := bT5.out.cell 1 rfl; have yTu := bT5.out.unfrozen; have hK5 : Hid (∀ b, b < w2.heap.size → w5.heap[b]? = w2.heap[b]?) := fun b hb => (hB5.block b (by omega)).trans (hBE.block b hb); have row5 : Hid (RowIs w5 bS (oS + p * 3) C Tt [.int .i64 x.vSlots[p].vGen, .bool x.vSlots[p].vUsed, .string x.vSlots[p].vData]) := hrow'.out.keep (hK5.out bS hS2); have row6 : Hid (RowIs (w5.setCell ⟨w2.heap.size, 1, none⟩ (.slice pN rest.length dN)) bS (oS + p * 3) C Tt [.int .i64 x.vSlots[p].vGen, .bool x.vSlots[p].vUsed, .string x.vSlots[p].vData]) := row5.out.keep (set_other (by omega) _); have x0_ := row6.out.cell 0 rfl; have x1_ := row6.out.cell 1 rfl; have x2_ := row6.out.cell 2 rfl; have xu_ := row6.out.unfrozen; simp only [Nat.add_zero] at x0_; have bT6 : Hid (Box (w5.setCell ⟨w2.heap.size, 1, none⟩ (.slice pN rest.length dN)) w2.heap.size [.slice (some ⟨bS, oS, none⟩) x.vSlots.length dS, .slice pN rest.length dN] 27) := bT5.out.set _; have t60 := bT6.out.cell 0 rfl; have t61 := bT6.out.cell 1 rfl; have t6u := bT6.out.unfrozen; have row7 : Hid (RowIs ((w5.setCell ⟨w2.heap.size, 1, none⟩ (.slice pN rest.length dN)).setCell ⟨bS, oS + p * 3 + 1, none⟩ (.bool true)) bS (oS + p * 3) C Tt [.int .i64 x.vSlots[p].vGen, .bool true, .string x.vSlots[p].vData]) := row6.out.set (m := 1) (by simp) _; have row8 : Hid (RowIs (((w5.setCell ⟨w2.heap.size, 1, none⟩ (.slice pN rest.length dN)).setCell ⟨bS, oS + p * 3 + 1, none⟩ (.bool true)).setCell ⟨bS, oS + p * 3 + 2, none⟩ (.string dt)) bS (oS + p * 3) C Tt [.int .i64 x.vSlots[p].vGen, .bool true, .string dt]) := row7.out.set (m := 2) (by simp) _; have x70 := row7.out.cell 0 rfl; have x71 := row7.out.cell 1 rfl; have x72 := row7.out.cell 2 rfl; have x7u := row7.out.unfrozen; have bT7 : Hid (Box ((w5.setCell ⟨w2.heap.size, 1, none⟩ (.slice pN rest.length dN)).setCell ⟨bS, oS + p * 3 + 1, none⟩ (.bool true)) w2.heap.size [.slice (some ⟨bS, oS, none⟩) x.vSlots.length dS, .slice pN rest.length dN] 27) := bT6.out.other (by omega) _; have t70 := bT7.out.cell 0 rfl; have bT8 : Hid (Box (((w5.setCell ⟨w2.heap.size, 1, none⟩ (.slice pN rest.length dN)).setCell ⟨bS, oS + p * 3 + 1, none⟩ (.bool true)).setCell ⟨bS, oS + p * 3 + 2, none⟩ (.string dt)) w2.heap.size [.slice (some ⟨bS, oS, none⟩) x.vSlots.length dS, .slice pN rest.length dN] 27) := bT7.out.other (by omega) _; clear ho5 yT0)
  have h5b : Below w2.heap.size w2 w5 := hBE.trans (hB5h.out.mono (by omega))
  have h6b : Below w2.heap.size w2 (w5.setCell ⟨w2.heap.size, 1, none⟩ (.slice pN rest.length dN)) := h5b.setCell (by exact Nat.le_refl _) _
  have hO8 : Out [bS] w2 (((w5.setCell ⟨w2.heap.size, 1, none⟩ (.slice pN rest.length dN)).setCell ⟨bS, oS + p * 3 + 1, none⟩ (.bool true)).setCell ⟨bS, oS + p * 3 + 2, none⟩ (.string dt)) := ((Out.of_below h6b).set (by simp) _).set (by simp) _
  have hB8 : Below w.heap.size w (((w5.setCell ⟨w2.heap.size, 1, none⟩ (.slice pN rest.length dN)).setCell ⟨bS, oS + p * 3 + 1, none⟩ (.bool true)).setCell ⟨bS, oS + p * 3 + 2, none⟩ (.string dt)) := hB2.trans (hO8.below hB2.size (fun b m => by simp at m; subst m; omega))
  have hSeqS := hclose'.out (((w5.setCell ⟨w2.heap.size, 1, none⟩ (.slice pN rest.length dN)).setCell ⟨bS, oS + p * 3 + 1, none⟩ (.bool true)).setCell ⟨bS, oS + p * 3 + 2, none⟩ (.string dt)) [.int .i64 x.vSlots[p].vGen, .bool true, .string dt] ⟨x.vSlots[p].vGen, true, dt⟩ rfl row8.out hO8 ⟨rfl, hrange.out.1, hdt.out, rfl⟩
  obtain ⟨ffN, hI5, hIl, hIo⟩ := flat_of_css (O := IntOwn) hcR'.out rN5.out (fun cs x h => int_own h)
  have hSeqI : SeqOwn 1 IntOwn (((w5.setCell ⟨w2.heap.size, 1, none⟩ (.slice pN rest.length dN)).setCell ⟨bS, oS + p * 3 + 1, none⟩ (.bool true)).setCell ⟨bS, oS + p * 3 + 2, none⟩ (.string dt)) (.slice pN rest.length dN) rest ffN := hI5.stays intOwn_stays (fun b m => by have l1 := hIl b m; exact ((set_other (by omega) _).trans (set_other (by omega) _)).trans (set_other (by omega) _))
  have hans : Hid (∀ w', (∀ b, b ≠ w.heap.size + 1 → b ≠ w.heap.size + 1 + 1 → w'.heap[b]? = (((w5.setCell ⟨w2.heap.size, 1, none⟩ (.slice pN rest.length dN)).setCell ⟨bS, oS + p * 3 + 1, none⟩ (.bool true)).setCell ⟨bS, oS + p * 3 + 2, none⟩ (.string dt)).heap[b]?) → AnsA w w' [.slice (some ⟨bS, oS, none⟩) x.vSlots.length dS, .slice pN rest.length dN] ⟨x.vSlots.set p ⟨x.vSlots[p].vGen, true, dt⟩, rest⟩) := fun w' k => by
    have hl : (x.vSlots.set p ⟨x.vSlots[p].vGen, true, dt⟩).length = x.vSlots.length := by simp
    refine ansRows (base := w1_.heap.size) (hSeqS.stays SlotOwn_stays (fun b m => ?_)) (hSeqI.stays intOwn_stays (fun b m => ?_)) (fun b m => (hlS.out b m).1) (fun b m => ?_) (by omega) (fun b m1 m2 => ?_)
    · have := (hlS.out b m).1; exact k b (by omega) (by omega)
    · have := hIl b m; exact k b (by omega) (by omega)
    · have := hIl b m; omega
    · have h1 := (hlS.out b m1).2; have h2 := hIl b m2; omega
  have bR8 : Hid (Box (((w5.setCell ⟨w2.heap.size, 1, none⟩ (.slice pN rest.length dN)).setCell ⟨bS, oS + p * 3 + 1, none⟩ (.bool true)).setCell ⟨bS, oS + p * 3 + 2, none⟩ (.string dt)) (w.heap.size + 1) [.slice none 0 0, .slice none 0 0] 27) := ((hO8.keep bR2.out.lt (by simp; omega)).trans bR2.out)
  have bH8 : Hid (Box (((w5.setCell ⟨w2.heap.size, 1, none⟩ (.slice pN rest.length dN)).setCell ⟨bS, oS + p * 3 + 1, none⟩ (.bool true)).setCell ⟨bS, oS + p * 3 + 2, none⟩ (.string dt)) (w.heap.size + 1 + 1) [.int .i64 0, .int .i64 0] 31) := ((hO8.keep bH2.out.lt (by simp; omega)).trans bH2.out)
  have v0_ := bT8.out.cell 0 rfl
  have v1_ := bT8.out.cell 1 rfl
  have v2_ := row8.out.cell 0 rfl
  simp only [Nat.add_zero] at v2_
  clear hSeqS hSeqI hI5 hO8
  generalize (((w5.setCell ⟨w2.heap.size, 1, none⟩ (.slice pN rest.length dN)).setCell ⟨bS, oS + p * 3 + 1, none⟩ (.bool true)).setCell ⟨bS, oS + p * 3 + 2, none⟩ (.string dt)) = w8 at bR8 bH8 v0_ v1_ v2_ hans hB8 ⊢
  refine wp_region_held_drew (S := fun w' => w'.cell? ⟨w2.heap.size, 0, none⟩ = some (.slice (some ⟨bS, oS, none⟩) x.vSlots.length dS) ∧ w'.cell? ⟨w2.heap.size, 1, none⟩ = some (.slice pN rest.length dN) ∧ w'.cell? ⟨bS, oS + p * 3, none⟩ = some (.int .i64 x.vSlots[p].vGen)) (by kernel_rfl) ⟨v0_, v1_, v2_⟩ (fun hHeld => ?_)
  refine tq (i := 0) (d := 48) ?_
  simp only [sz, ss]
  refine tq (i := 1) (d := 49) ?_
  simp only [sz, ss]
  refine tq (i := 2) (d := 50) ?_
  simp only [sz, ss]
  refine tq (i := 3) (d := 51) ?_
  simp only [sz, ss]
  refine tq (i := 4) (d := 52) ?_
  simp only [sz, ss]
  refine tq (i := 5) (d := 53) ?_
  simp only [sz, ss]
  refine tq (i := 6) (d := 54) ?_
  simp only [sz, ss]
  refine tq (i := 7) (d := 55) ?_
  simp only [sz, ss]
  refine tq (i := 8) (d := 56) ?_
  simp only [sz, ss]
  refine wpAnyH_ready (rs := [9]) (by kernel_rfl) (by simp) ?_
  refine AllReadyH.cons rfl (fun K hK => ?_) AllReadyH.nil
  have u0 : w8.drew.cell? ⟨w.heap.size + 1, 0, none⟩ = some (.slice none 0 0) := bR8.out.cell 0 rfl
  have u2 : ∀ i, w8.drew.frozen? ⟨w.heap.size + 1, i, none⟩ = false := bR8.out.unfrozen
  have bX1 : Hid (Box (w8.setCell ⟨w.heap.size + 1, 0, none⟩ (.slice (some ⟨bS, oS, none⟩) x.vSlots.length dS)) (w.heap.size + 1) [.slice (some ⟨bS, oS, none⟩) x.vSlots.length dS, .slice none 0 0] 27) := bR8.out.set _
  have u3 : (w8.setCell ⟨w.heap.size + 1, 0, none⟩ (.slice (some ⟨bS, oS, none⟩) x.vSlots.length dS)).drew.cell? ⟨w.heap.size + 1, 1, none⟩ = some (.slice none 0 0) := bX1.out.cell 1 rfl
  have u4 : ∀ i, (w8.setCell ⟨w.heap.size + 1, 0, none⟩ (.slice (some ⟨bS, oS, none⟩) x.vSlots.length dS)).drew.frozen? ⟨w.heap.size + 1, i, none⟩ = false := bX1.out.unfrozen
  go_simp
  clear u0 u2 u3 u4
  refine hK.out _ _ ⟨cell_set (T := w.heap.size + 1) (cell_set (T := w.heap.size + 1) hHeld.1 (by omega) _) (by omega) _, cell_set (T := w.heap.size + 1) (cell_set (T := w.heap.size + 1) hHeld.2.1 (by omega) _) (by omega) _, cell_set (T := w.heap.size + 1) (cell_set (T := w.heap.size + 1) hHeld.2.2 (by omega) _) (by omega) _⟩ (fun hHeld => ?_)
  clear hK K
  refine wpAnyH_ready (rs := [10]) (by kernel_rfl) (by simp) ?_
  refine AllReadyH.cons rfl (fun K hK => ?_) AllReadyH.nil
  have bX2 : Hid (Box ((w8.setCell ⟨w.heap.size + 1, 0, none⟩ (.slice (some ⟨bS, oS, none⟩) x.vSlots.length dS)).setCell ⟨w.heap.size + 1, 1, none⟩ (.slice pN rest.length dN)) (w.heap.size + 1 + 1) [.int .i64 0, .int .i64 0] 31) := (bH8.out.other (by omega) _).other (by omega) _
  have u0 : ((w8.setCell ⟨w.heap.size + 1, 0, none⟩ (.slice (some ⟨bS, oS, none⟩) x.vSlots.length dS)).setCell ⟨w.heap.size + 1, 1, none⟩ (.slice pN rest.length dN)).drew.cell? ⟨w.heap.size + 1 + 1, 0, none⟩ = some (.int .i64 0) := bX2.out.cell 0 rfl
  have u2 : ∀ i, ((w8.setCell ⟨w.heap.size + 1, 0, none⟩ (.slice (some ⟨bS, oS, none⟩) x.vSlots.length dS)).setCell ⟨w.heap.size + 1, 1, none⟩ (.slice pN rest.length dN)).drew.frozen? ⟨w.heap.size + 1 + 1, i, none⟩ = false := bX2.out.unfrozen
  have bX3 : Hid (Box (((w8.setCell ⟨w.heap.size + 1, 0, none⟩ (.slice (some ⟨bS, oS, none⟩) x.vSlots.length dS)).setCell ⟨w.heap.size + 1, 1, none⟩ (.slice pN rest.length dN)).setCell ⟨w.heap.size + 1 + 1, 0, none⟩ (.int .i64 (p : Int))) (w.heap.size + 1 + 1) [.int .i64 (p : Int), .int .i64 0] 31) := bX2.out.set _
  have u3 : (((w8.setCell ⟨w.heap.size + 1, 0, none⟩ (.slice (some ⟨bS, oS, none⟩) x.vSlots.length dS)).setCell ⟨w.heap.size + 1, 1, none⟩ (.slice pN rest.length dN)).setCell ⟨w.heap.size + 1 + 1, 0, none⟩ (.int .i64 (p : Int))).drew.cell? ⟨w.heap.size + 1 + 1, 1, none⟩ = some (.int .i64 0) := bX3.out.cell 1 rfl
  have u4 : ∀ i, (((w8.setCell ⟨w.heap.size + 1, 0, none⟩ (.slice (some ⟨bS, oS, none⟩) x.vSlots.length dS)).setCell ⟨w.heap.size + 1, 1, none⟩ (.slice pN rest.length dN)).setCell ⟨w.heap.size + 1 + 1, 0, none⟩ (.int .i64 (p : Int))).drew.frozen? ⟨w.heap.size + 1 + 1, i, none⟩ = false := bX3.out.unfrozen
  go_simp
  clear u0 u2 u3 u4
  refine hK.out _ _ ⟨cell_set (T := w.heap.size + 1 + 1) (cell_set (T := w.heap.size + 1 + 1) hHeld.1 (by omega) _) (by omega) _, cell_set (T := w.heap.size + 1 + 1) (cell_set (T := w.heap.size + 1 + 1) hHeld.2.1 (by omega) _) (by omega) _, cell_set (T := w.heap.size + 1 + 1) (cell_set (T := w.heap.size + 1 + 1) hHeld.2.2 (by omega) _) (by omega) _⟩ (fun hHeld => ?_)
  clear hK K
  refine tq (i := 11) (d := 6) ?_
  simp only [sz, ss]
  refine wpAnyH_done (by kernel_rfl) ?_ _
  go_wp2_with fail
  have bRf : Hid (Box (putCells (putCells w8 (w.heap.size + 1) 0 [.slice (some ⟨bS, oS, none⟩) x.vSlots.length dS, .slice pN rest.length dN]) (w.heap.size + 1 + 1) 0 [.int .i64 (p : Int), .int .i64 x.vSlots[p].vGen]).drew (w.heap.size + 1) [.slice (some ⟨bS, oS, none⟩) x.vSlots.length dS, .slice pN rest.length dN] 27) := (((bR8.out.set _).set _).other (by omega) _).other (by omega) _
  have bHf : Hid (Box (putCells (putCells w8 (w.heap.size + 1) 0 [.slice (some ⟨bS, oS, none⟩) x.vSlots.length dS, .slice pN rest.length dN]) (w.heap.size + 1 + 1) 0 [.int .i64 (p : Int), .int .i64 x.vSlots[p].vGen]).drew (w.heap.size + 1 + 1) [.int .i64 (p : Int), .int .i64 x.vSlots[p].vGen] 31) := ((((bH8.out.other (by omega) _).other (by omega) _).set _).set _)
  have e0_ := bRf.out.cell 0 rfl
  have e1_ := bRf.out.cell 1 rfl
  have e2_ := bHf.out.cell 0 rfl
  have e3_ := bHf.out.cell 1 rfl
  simp only [putCells, Nat.zero_add] at e0_ e1_ e2_ e3_
  have hBf : Hid (Below w.heap.size w (putCells (putCells w8 (w.heap.size + 1) 0 [.slice (some ⟨bS, oS, none⟩) x.vSlots.length dS, .slice pN rest.length dN]) (w.heap.size + 1 + 1) 0 [.int .i64 (p : Int), .int .i64 x.vSlots[p].vGen]).drew) := Below.drew (putCells_below _ _ _ _ _ _ (by omega) (putCells_below _ _ _ _ _ _ (by omega) hB8))
  have hKf : Hid (∀ b, b ≠ w.heap.size + 1 → b ≠ w.heap.size + 1 + 1 → (putCells (putCells w8 (w.heap.size + 1) 0 [.slice (some ⟨bS, oS, none⟩) x.vSlots.length dS, .slice pN rest.length dN]) (w.heap.size + 1 + 1) 0 [.int .i64 (p : Int), .int .i64 x.vSlots[p].vGen]).drew.heap[b]? = (World.heap w8)[b]?) := fun b n1 n2 => (putCells_other _ _ _ _ _ n2).trans (putCells_other _ _ _ _ _ n1)
  refine bodyPost_ret (v := .tuple #[.agg (List.toArray [.slice (some ⟨bS, oS, none⟩) x.vSlots.length dS, .slice pN rest.length dN]), .agg (List.toArray [.int .i64 (p : Int), .int .i64 x.vSlots[p].vGen]), .bool true]) (by simp [results, Try.results10, go_sem, e0_, e1_, e2_, e3_]) rfl ⟨by rw [HD.out]; exact ⟨_, rfl, hans.out _ (fun b n1 n2 => hKf.out b n1 n2)⟩, hBf.out⟩
end Go.Proofs.Ytcbomaflfjdmjaa
