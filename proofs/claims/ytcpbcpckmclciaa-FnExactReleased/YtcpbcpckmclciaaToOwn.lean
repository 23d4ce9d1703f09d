/- What the functions to.. of the laws hand back: a copy that owns its memory. -/
import Derived.Test.YtcpbcpckmclciaaOwnFill
import Derived.Test.YtcpbcpckmclciaaOwnRecs
import Derived.Test.YtcpbcpckmclciaaArTo
import Derived.WalkKit
namespace Go.Proofs.Ytcpbcpckmclciaa
open Go.RowKit
set_option maxHeartbeats 800000 in
theorem toInt64S_own {w : World} {lo : Nat} {k : Value} {xs : List Int} (hk : SeqAt 1 IntAt w lo k xs) (hl : xs.length ≤ 1048576) :
    Calls Try.prog 34 #[k] w fun e w' => (∃ k' fs, e = .returned k' ∧ SeqOwn 1 IntOwn w' k' xs fs ∧ fs.Nodup ∧ ∀ b ∈ fs, w.heap.size ≤ b) ∧ Below w.heap.size w w' := by
  obtain ⟨a, cap, rfl, hm, hx⟩ := hk
  unfold maxLen at hm
  have hx' : Hid _ := hx
  clear hx
  have hmk := run_newInt64 xs.length hl w
  go_enter Try.func34, Try.ntmps34
  go_wp2_with fail
  go_loopw [4] (fun i wr => ∃ (j : Nat) (bss : List (List Nat)), j ≤ xs.length ∧ i = .int .i64 j ∧ Hid (FilledO 2 1 IntOwn w wr xs w.heap.size j bss)) (fun i _ => xs.length - (intOf i).toNat)
  case atStart => exact ⟨0, [], by omega, rfl, FilledO.start (newInt64_size _)⟩
  case round =>
    obtain ⟨j, bss, hj, rfl, hfill⟩ := hrel
    have hb := hfill.out.1
    by_cases hlt : j < xs.length
    · obtain ⟨b, off, rfl, hlo, hbw, hc⟩ := hx'.out (by omega)
      obtain ⟨cs, hcl, lie, hr⟩ := hc j hlt
      have lie1 := Lie.keep (lo := lo) (lo' := lo) lie (.of_below hb) hlo hbw
      have hr' : Hid (IntOwn wr cs xs[j] []) := ⟨hr.1, hr.2, rfl⟩
      generalize hX : xs[j] = X at hr
      have hX' : Hid _ := hX
      clear hX
      obtain ⟨rfl, hI⟩ := hr
      have z0 := lie1 0 (by simp)
      simp only [List.getElem?_cons_zero, Nat.add_zero, Nat.mul_one] at z0
      obtain ⟨hv, hf⟩ := hfill.out.facts hlt (Below.refl _ _)
      obtain ⟨v0, y0⟩ := hv 0 (by omega)
      simp only [Nat.add_zero, Nat.mul_one] at y0
      have f0 := hf j
      clear hv hf lie lie1 hx' hmk hc
      go_wp2_with fail
      go_roundw
      case rel =>
        refine ⟨j + 1, bss ++ [[]], by omega, by go_num, ?_⟩
        have := FilledO.step intOwn_stays hfill.out hlt (Nat.le_refl _) (Below.refl _ _) hcl hr'.out (by simp) (by simp) (by simp)
        simpa [putCells, Hid] using this
      case measure => simp [intOf]; omega
    · have e : j = xs.length := by omega
      subst e
      go_wp2_with fail
      go_ret
      obtain ⟨d1, d2⟩ := hfill.out.done (Nat.le_refl _) (by unfold maxLen; omega)
      exact ⟨⟨_, _, rfl, d1, d1.nodup, d2⟩, hb⟩
set_option maxHeartbeats 1000000 in
theorem toSlot_own {w : World} {lo : Nat} {cs : List Value} {x : SlotD} (hx : SlotAt w lo cs x) :
    Calls Try.prog 50 #[.agg cs.toArray] w fun e w' => (∃ cs' fs, e = .returned (.agg cs'.toArray) ∧ SlotOwn w' cs' x fs ∧ fs.Nodup ∧ ∀ b ∈ fs, w.heap.size ≤ b) ∧ Below w.heap.size w w' := by
  obtain ⟨rfl, rGen, rData, _⟩ := hx
  go_enter Try.func50, Try.ntmps50
  go_wp2_with fail
  exact bodyPost_ret (v := .agg (List.toArray [.int .i64 x.vGen, .bool x.vUsed, .string x.vData])) (by simp [results, Try.results50, go_sem]) rfl ⟨⟨_, [], rfl, ⟨rfl, rGen, rData, rfl⟩, List.nodup_nil, by simp⟩, (((Below.refl _ _).alloc (Nat.le_refl _) _).alloc (by simp) _).alloc (by simp; omega) _⟩
set_option maxHeartbeats 1000000 in
theorem toSlotS_own {w : World} {lo : Nat} {k : Value} {xs : List SlotD} (hk : SeqAt 3 SlotAt w lo k xs) (hsm : AllS SlotD.small xs) :
    Calls Try.prog 33 #[k] w fun e w' => (∃ k' fs, e = .returned k' ∧ SeqOwn 3 SlotOwn w' k' xs fs ∧ fs.Nodup ∧ ∀ b ∈ fs, w.heap.size ≤ b) ∧ Below w.heap.size w w' := by
  obtain ⟨a, cap, rfl, hm, hx⟩ := hk
  unfold maxLen at hm
  have hx' : Hid _ := hx
  have hsm' : Hid (AllS SlotD.small xs) := hsm
  have hl := hsm.1
  clear hx hsm
  have hmk := run_newSlot xs.length hl w
  go_enter Try.func33, Try.ntmps33
  go_wp2_with fail
  go_loopw [4] (fun i wr => ∃ (j : Nat) (bss : List (List Nat)), j ≤ xs.length ∧ i = .int .i64 j ∧ Hid (FilledO 56 3 SlotOwn w wr xs w.heap.size j bss)) (fun i _ => xs.length - (intOf i).toNat)
  case atStart => exact ⟨0, [], by omega, rfl, FilledO.start (newSlot_size _)⟩
  case round =>
    obtain ⟨j, bss, hj, rfl, hfill⟩ := hrel
    have hb := hfill.out.1
    by_cases hlt : j < xs.length
    · obtain ⟨b, off, rfl, hlo, hbw, hc⟩ := hx'.out (by omega)
      obtain ⟨cs, hcl, lie, hr⟩ := hc j hlt
      have lie1 := Lie.keep (lo := lo) (lo' := lo) lie (.of_below hb) hlo hbw
      have hr2 := SlotAt_stays _ _ _ lo _ _ (.of_below hb) hr
      have hsj : Hid (SlotD.small xs[j]) := hsm'.out.2 j hlt
      generalize hX : xs[j] = X at hr2 hsj
      have hX' : Hid _ := hX
      have hr3 : Hid (SlotAt wr lo cs X) := hr2
      clear hX hr lie hc
      obtain ⟨rfl, rGen, rData, _⟩ := hr2
      clear rGen rData
      have z0 := lie1 0 (by simp)
      have z1 := lie1 1 (by simp)
      have z2 := lie1 2 (by simp)
      simp only [List.getElem?_cons_zero, List.getElem?_cons_succ, Nat.add_zero] at z0 z1 z2
      clear lie1 hcl hx' hmk
      go_wp2_with fail
      refine (toSlot_own hr3.out).mono ?_
      rintro e w1 ⟨⟨cs1, fs1, rfl, ht1, nd1, lo1⟩, hb1⟩
      have hcl1 : cs1.length = 3 := by obtain ⟨rfl, _⟩ := ht1; rfl
      have ht1' : Hid (SlotOwn w1 cs1 X fs1) := ht1
      have hi1 : Hid (∀ b ∈ fs1, b < w1.heap.size) := SlotOwn_lt _ _ _ _ ht1
      obtain ⟨rfl, rGen, rData, rfl⟩ := ht1
      clear rGen rData z0 z1 z2
      obtain ⟨hv, hf⟩ := hfill.out.facts hlt hb1
      obtain ⟨v0, y0⟩ := hv 0 (by omega)
      have f0 := hf (j * 3 + 0)
      obtain ⟨v1, y1⟩ := hv 1 (by omega)
      have f1 := hf (j * 3 + 1)
      obtain ⟨v2, y2⟩ := hv 2 (by omega)
      have f2 := hf (j * 3 + 2)
      simp only [Nat.add_zero] at y0 f0
      clear hv hf
      go_wp2_with fail
      go_roundw
      case rel =>
        refine ⟨j + 1, bss ++ [[]], by omega, by go_num, ?_⟩
        have hst := FilledO.step SlotOwn_stays hfill.out hlt (Nat.le_refl _) hb1 hcl1 (by rw [hX'.out]; exact ht1'.out) (by simp) (by simp) (by simp)
        simp only [putCells, Nat.add_assoc, Nat.reduceAdd] at hst
        exact hst
      case measure => simp [intOf]; omega
    · have e : j = xs.length := by omega
      subst e
      go_wp2_with fail
      go_ret
      obtain ⟨d1, d2⟩ := hfill.out.done (Nat.le_refl _) (by unfold maxLen; omega)
      exact ⟨⟨_, _, rfl, d1, d1.nodup, d2⟩, hb⟩
set_option maxHeartbeats 1000000 in
theorem toArena_own {w : World} {lo : Nat} {cs : List Value} {x : ArenaD} (hx : ArenaAt w lo cs x) (hsm : x.small) :
    Calls Try.prog 11 #[.agg cs.toArray] w fun e w' => (∃ cs' fs, e = .returned (.agg cs'.toArray) ∧ ArenaOwn w' cs' x fs ∧ fs.Nodup ∧ ∀ b ∈ fs, w.heap.size ≤ b) ∧ Below w.heap.size w w' := by
  obtain ⟨k0, k1, rfl, s0, s1, _⟩ := hx
  obtain ⟨mSlots, mFree, _⟩ := hsm
  have s0' : Hid (SeqAt 3 SlotAt w lo k0 x.vSlots) := s0
  obtain ⟨a0, cap0, rfl⟩ := s0.form
  clear s0
  have mSlots' : Hid (AllS SlotD.small x.vSlots) := mSlots
  clear mSlots
  have s1' : Hid (SeqAt 1 IntAt w lo k1 x.vFree) := s1
  obtain ⟨a1, cap1, rfl⟩ := s1.form
  clear s1
  have mFree' : Hid (x.vFree.length ≤ 1048576) := mFree
  clear mFree
  have hb : Below w.heap.size w (((w.alloc (.cells (List.toArray [.slice a0 x.vSlots.length cap0, .slice a1 x.vFree.length cap1]) 25)).alloc (.cells (List.toArray [.slice none 0 0, .slice none 0 0]) 30)).alloc (.cells (List.toArray [.slice none 0 0, .slice none 0 0]) 30)) := (((Below.refl _ _).alloc (Nat.le_refl _) _).alloc (by simp) _).alloc (by simp; omega) _
  have hz : (((w.alloc (.cells (List.toArray [.slice a0 x.vSlots.length cap0, .slice a1 x.vFree.length cap1]) 25)).alloc (.cells (List.toArray [.slice none 0 0, .slice none 0 0]) 30)).alloc (.cells (List.toArray [.slice none 0 0, .slice none 0 0]) 30)).heap.size = w.heap.size + 3 := by simp
  have bA : Hid (Box (((w.alloc (.cells (List.toArray [.slice a0 x.vSlots.length cap0, .slice a1 x.vFree.length cap1]) 25)).alloc (.cells (List.toArray [.slice none 0 0, .slice none 0 0]) 30)).alloc (.cells (List.toArray [.slice none 0 0, .slice none 0 0]) 30)) w.heap.size [.slice a0 x.vSlots.length cap0, .slice a1 x.vFree.length cap1] 25) := ((Box.new w _ _).alloc _).alloc _
  have bR : Hid (Box (((w.alloc (.cells (List.toArray [.slice a0 x.vSlots.length cap0, .slice a1 x.vFree.length cap1]) 25)).alloc (.cells (List.toArray [.slice none 0 0, .slice none 0 0]) 30)).alloc (.cells (List.toArray [.slice none 0 0, .slice none 0 0]) 30)) (w.heap.size + 1) [.slice none 0 0, .slice none 0 0] 30) := by have := (Box.new (w.alloc (.cells (List.toArray [.slice a0 x.vSlots.length cap0, .slice a1 x.vFree.length cap1]) 25)) [.slice none 0 0, .slice none 0 0] 30).alloc (.cells (List.toArray [.slice none 0 0, .slice none 0 0]) 30); simpa [Hid] using this
  have bO : Hid (Box (((w.alloc (.cells (List.toArray [.slice a0 x.vSlots.length cap0, .slice a1 x.vFree.length cap1]) 25)).alloc (.cells (List.toArray [.slice none 0 0, .slice none 0 0]) 30)).alloc (.cells (List.toArray [.slice none 0 0, .slice none 0 0]) 30)) (w.heap.size + 1 + 1) [.slice none 0 0, .slice none 0 0] 30) := by have := Box.new ((w.alloc (.cells (List.toArray [.slice a0 x.vSlots.length cap0, .slice a1 x.vFree.length cap1]) 25)).alloc (.cells (List.toArray [.slice none 0 0, .slice none 0 0]) 30)) [.slice none 0 0, .slice none 0 0] 30; simpa [Hid] using this
  go_enter Try.func11, Try.ntmps11
  go_wp2_with fail
  refine (toSlotS_own (s0'.out.below SlotAt_stays hb) mSlots'.out).mono ?_
  rintro e u0 ⟨⟨kk0, fs0, rfl, ss0, nd0, lo0⟩, hbc⟩
  obtain ⟨aa0, cc0, rfl⟩ := ss0.form
  have hz0 : w.heap.size + 3 ≤ u0.heap.size := by have := hbc.size; omega
  have hi0 : Hid (∀ b ∈ fs0, b < u0.heap.size) := ss0.lt SlotOwn_lt
  have lw0 : Hid (∀ b ∈ fs0, w.heap.size + 3 ≤ b) := fun b q => by have := lo0 b q; omega
  replace hb := hb.trans (hbc.mono hb.size)
  have bA0 : Hid (Box u0 w.heap.size [.slice a0 x.vSlots.length cap0, .slice a1 x.vFree.length cap1] 25) := bA.out.below hbc bA.out.lt
  have bR0 : Hid (Box u0 (w.heap.size + 1) [.slice none 0 0, .slice none 0 0] 30) := bR.out.below hbc bR.out.lt
  have bO0 : Hid (Box u0 (w.heap.size + 1 + 1) [.slice none 0 0, .slice none 0 0] 30) := bO.out.below hbc bO.out.lt
  have ss0' : Hid (SeqOwn 3 SlotOwn u0 (.slice aa0 x.vSlots.length cc0) x.vSlots fs0) := ss0
  have tA0_0 := bA0.out.cell 0 rfl
  have tR0_0 := bR0.out.cell 0 rfl
  have tO0_0 := bO0.out.cell 0 rfl
  have tA0_1 := bA0.out.cell 1 rfl
  have tR0_1 := bR0.out.cell 1 rfl
  have tO0_1 := bO0.out.cell 1 rfl
  have fR0 := bR0.out.unfrozen
  have fO0 := bO0.out.unfrozen
  clear hbc ss0 bA bR bO hz
  have bA : Hid (Box (putCells u0 (w.heap.size + 1 + 1) 0 [.slice aa0 x.vSlots.length cc0]) w.heap.size [.slice a0 x.vSlots.length cap0, .slice a1 x.vFree.length cap1] 25) := (bA0.out.other (by omega) _)
  have bR : Hid (Box (putCells u0 (w.heap.size + 1 + 1) 0 [.slice aa0 x.vSlots.length cc0]) (w.heap.size + 1) [.slice none 0 0, .slice none 0 0] 30) := (bR0.out.other (by omega) _)
  have bO : Hid (Box (putCells u0 (w.heap.size + 1 + 1) 0 [.slice aa0 x.vSlots.length cc0]) (w.heap.size + 1 + 1) [.slice aa0 x.vSlots.length cc0, .slice none 0 0] 30) := (bO0.out.set _)
  have hz : (putCells u0 (w.heap.size + 1 + 1) 0 [.slice aa0 x.vSlots.length cc0]).heap.size = u0.heap.size := putCells_size _ _ _ _
  replace hb : Below w.heap.size w (putCells u0 (w.heap.size + 1 + 1) 0 [.slice aa0 x.vSlots.length cc0]) := putCells_below _ _ _ _ _ _ (by omega) hb
  have ss0n : Hid (SeqOwn 3 SlotOwn (putCells u0 (w.heap.size + 1 + 1) 0 [.slice aa0 x.vSlots.length cc0]) (.slice aa0 x.vSlots.length cc0) x.vSlots fs0) := SeqOwn.put SlotOwn_stays ss0'.out (fun b q => by have := lw0.out b q; omega)
  clear ss0'
  have ss0' := ss0n
  clear ss0n
  clear bA0 bR0 bO0
  go_wp2_with fail
  refine (toInt64S_own (s1'.out.below intAt_stays hb) mFree'.out).mono ?_
  rintro e u1 ⟨⟨kk1, fs1, rfl, ss1, nd1, lo1⟩, hbc⟩
  obtain ⟨aa1, cc1, rfl⟩ := ss1.form
  have hz1 : w.heap.size + 3 ≤ u1.heap.size := by have := hbc.size; omega
  have hi1 : Hid (∀ b ∈ fs1, b < u1.heap.size) := ss1.lt intOwn_lt
  have lw1 : Hid (∀ b ∈ fs1, w.heap.size + 3 ≤ b) := fun b q => by have := lo1 b q; omega
  have lp1 : Hid (∀ b ∈ fs1, u0.heap.size ≤ b) := fun b q => by have := lo1 b q; omega
  have mz1 : Hid (u0.heap.size ≤ u1.heap.size) := by show _ ≤ _; have := hbc.size; omega
  replace hb := hb.trans (hbc.mono hb.size)
  have bA1 : Hid (Box u1 w.heap.size [.slice a0 x.vSlots.length cap0, .slice a1 x.vFree.length cap1] 25) := bA.out.below hbc bA.out.lt
  have bR1 : Hid (Box u1 (w.heap.size + 1) [.slice none 0 0, .slice none 0 0] 30) := bR.out.below hbc bR.out.lt
  have bO1 : Hid (Box u1 (w.heap.size + 1 + 1) [.slice aa0 x.vSlots.length cc0, .slice none 0 0] 30) := bO.out.below hbc bO.out.lt
  have ss0n : Hid (SeqOwn 3 SlotOwn u1 (.slice aa0 x.vSlots.length cc0) x.vSlots fs0) := SeqOwn.below SlotOwn_stays SlotOwn_lt ss0'.out hbc
  clear ss0'
  have ss0' := ss0n
  clear ss0n
  have ss1' : Hid (SeqOwn 1 IntOwn u1 (.slice aa1 x.vFree.length cc1) x.vFree fs1) := ss1
  clear tA0_0 tR0_0 tO0_0 tA0_1 tR0_1 tO0_1 fR0 fO0
  have tA1_0 := bA1.out.cell 0 rfl
  have tR1_0 := bR1.out.cell 0 rfl
  have tO1_0 := bO1.out.cell 0 rfl
  have tA1_1 := bA1.out.cell 1 rfl
  have tR1_1 := bR1.out.cell 1 rfl
  have tO1_1 := bO1.out.cell 1 rfl
  have fR1 := bR1.out.unfrozen
  have fO1 := bO1.out.unfrozen
  clear hbc ss1 bA bR bO hz
  have bA : Hid (Box (putCells u1 (w.heap.size + 1 + 1) 1 [.slice aa1 x.vFree.length cc1]) w.heap.size [.slice a0 x.vSlots.length cap0, .slice a1 x.vFree.length cap1] 25) := (bA1.out.other (by omega) _)
  have bR : Hid (Box (putCells u1 (w.heap.size + 1 + 1) 1 [.slice aa1 x.vFree.length cc1]) (w.heap.size + 1) [.slice none 0 0, .slice none 0 0] 30) := (bR1.out.other (by omega) _)
  have bO : Hid (Box (putCells u1 (w.heap.size + 1 + 1) 1 [.slice aa1 x.vFree.length cc1]) (w.heap.size + 1 + 1) [.slice aa0 x.vSlots.length cc0, .slice aa1 x.vFree.length cc1] 30) := (bO1.out.set _)
  have hz : (putCells u1 (w.heap.size + 1 + 1) 1 [.slice aa1 x.vFree.length cc1]).heap.size = u1.heap.size := putCells_size _ _ _ _
  replace hb : Below w.heap.size w (putCells u1 (w.heap.size + 1 + 1) 1 [.slice aa1 x.vFree.length cc1]) := putCells_below _ _ _ _ _ _ (by omega) hb
  have ss0n : Hid (SeqOwn 3 SlotOwn (putCells u1 (w.heap.size + 1 + 1) 1 [.slice aa1 x.vFree.length cc1]) (.slice aa0 x.vSlots.length cc0) x.vSlots fs0) := SeqOwn.put SlotOwn_stays ss0'.out (fun b q => by have := lw0.out b q; omega)
  clear ss0'
  have ss0' := ss0n
  clear ss0n
  have ss1n : Hid (SeqOwn 1 IntOwn (putCells u1 (w.heap.size + 1 + 1) 1 [.slice aa1 x.vFree.length cc1]) (.slice aa1 x.vFree.length cc1) x.vFree fs1) := SeqOwn.put intOwn_stays ss1'.out (fun b q => by have := lw1.out b q; omega)
  clear ss1'
  have ss1' := ss1n
  clear ss1n
  clear bA1 bR1 bO1
  go_wp2_with fail
  refine bodyPost_ret (v := .agg (List.toArray [.slice aa0 x.vSlots.length cc0, .slice aa1 x.vFree.length cc1])) (by simp [results, Try.results11, go_sem, tR1_0, tR1_1]) rfl ⟨⟨_, fs0 ++ fs1, rfl, ⟨.slice aa0 x.vSlots.length cc0, .slice aa1 x.vFree.length cc1, fs0, fs1, rfl, ?s0, ?s1, rfl⟩, ?nd, ?lo⟩, ?bel⟩
  case s0 => exact SeqOwn.put SlotOwn_stays ss0'.out (g := (w.heap.size + 1)) (o := 0) (vs := [.slice aa0 x.vSlots.length cc0, .slice aa1 x.vFree.length cc1]) (fun b q => by have := lw0.out b q; omega)
  case s1 => exact SeqOwn.put intOwn_stays ss1'.out (g := (w.heap.size + 1)) (o := 0) (vs := [.slice aa0 x.vSlots.length cc0, .slice aa1 x.vFree.length cc1]) (fun b q => by have := lw1.out b q; omega)
  case nd => exact nodup_two nd0 nd1 hi0.out lp1.out
  case lo =>
    intro b q
    simp only [List.mem_append] at q
    rcases q with q | q
    · have := lw0.out b q; omega
    · have := lw1.out b q; omega
  case bel => exact putCells_below [.slice aa0 x.vSlots.length cc0, .slice aa1 x.vFree.length cc1] _ _ _ (w.heap.size + 1) 0 (by omega) hb
set_option maxHeartbeats 1000000 in
theorem toHandle_own {w : World} {lo : Nat} {cs : List Value} {x : HandleD} (hx : HandleAt w lo cs x) :
    Calls Try.prog 22 #[.agg cs.toArray] w fun e w' => (∃ cs' fs, e = .returned (.agg cs'.toArray) ∧ HandleOwn w' cs' x fs ∧ fs.Nodup ∧ ∀ b ∈ fs, w.heap.size ≤ b) ∧ Below w.heap.size w w' := by
  obtain ⟨rfl, rAt, rGen, _⟩ := hx
  go_enter Try.func22, Try.ntmps22
  go_wp2_with fail
  exact bodyPost_ret (v := .agg (List.toArray [.int .i64 x.vAt, .int .i64 x.vGen])) (by simp [results, Try.results22, go_sem]) rfl ⟨⟨_, [], rfl, ⟨rfl, rAt, rGen, rfl⟩, List.nodup_nil, by simp⟩, (((Below.refl _ _).alloc (Nat.le_refl _) _).alloc (by simp) _).alloc (by simp; omega) _⟩
end Go.Proofs.Ytcpbcpckmclciaa
