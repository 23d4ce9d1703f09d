/- What the functions to.. of the laws hand back: a copy in new memory. -/
import Derived.Test.YtbodeijffpepfaaWdRecs
import Derived.Test.YtbodeijffpepfaaToRecs
import Derived.WalkKit
namespace Go.Proofs.Ytbodeijffpepfaa
open Go.RowKit
set_option maxHeartbeats 1000000 in
theorem toPost_any {w : World} {lo : Nat} {cs : List Value} {x : PostD} (hx : PostAt w lo cs x) :
    Calls Try.prog 31 #[.agg cs.toArray] w fun e w' => (∃ cs', e = .returned (.agg cs'.toArray) ∧ PostAt w' w.heap.size cs' x) ∧ Below w.heap.size w w' := by
  obtain ⟨rfl, rFrom, rTo, rText, _⟩ := hx
  go_enter Try.func31, Try.ntmps31
  go_wp2_with fail
  exact bodyPost_ret (v := .agg (List.toArray [.int .i64 x.vFrom, .int .i64 x.vTo, .string x.vText])) (by simp [results, Try.results31, go_sem]) rfl ⟨⟨_, rfl, rfl, rFrom, rTo, rText, trivial⟩, (((Below.refl _ _).alloc (Nat.le_refl _) _).alloc (by simp) _).alloc (by simp; omega) _⟩
theorem infoPost : ((Try.prog.info? 45).map fun i => (i.zero, i.bytes, i.size)) = some (some (.agg #[.int .i64 0, .int .i64 0, .string ByteArray.empty]), 32, 3) := by kernel_rfl
/-- the cells of n new ones -/
def newPost (n : Nat) : Array Value := madeCells #[.int .i64 0, .int .i64 0, .string ByteArray.empty] (n * 3)
theorem newPost_size (n : Nat) : (newPost n).size = n * 3 := size_madeCells _ _
theorem run_newPost (n : Nat) (h : n ≤ 1048576) (w : World) : Sem.run Try.prog (Instr.makeSlice 29 (.int .i64 (n : Int)) (.int .i64 (n : Int))) w = .ok (.slice (some ⟨w.heap.size, 0, none⟩) n n) (w.alloc (.cells (newPost n) 45)) := by
  obtain ⟨i, hi, he⟩ := Option.map_eq_some_iff.1 infoPost
  simp only [Prod.mk.injEq] at he
  have := run_make (P := Try.prog) w 29 45 i _ Try.underlying29 hi he.1 .i64 .i64 (n : Int) (n : Int) (by omega) (Int.le_refl _) (by rw [he.2.1]; omega) (by omega)
  rw [he.2.2] at this
  simpa [newPost, Value.cells] using this
set_option maxHeartbeats 1000000 in
theorem toPostS_any {w : World} {lo : Nat} {k : Value} {xs : List PostD} (hk : SeqAt 3 PostAt w lo k xs) (hsm : AllS PostD.small xs) :
    Calls Try.prog 15 #[k] w fun e w' => (∃ k', e = .returned k' ∧ SeqAt 3 PostAt w' w.heap.size k' xs) ∧ Below w.heap.size w w' := by
  obtain ⟨a, cap, rfl, hm, hx⟩ := hk
  unfold maxLen at hm
  have hx' : Hid _ := hx
  have hsm' : Hid (AllS PostD.small xs) := hsm
  have hl := hsm.1
  clear hx hsm
  have hmk := run_newPost xs.length hl w
  go_enter Try.func15, Try.ntmps15
  go_wp2_with fail
  go_loopw [4] (fun i wr => ∃ (j : Nat), j ≤ xs.length ∧ i = .int .i64 j ∧ Hid (Filled 45 3 PostAt w wr xs w.heap.size j)) (fun i _ => xs.length - (intOf i).toNat)
  case atStart => exact ⟨0, by omega, rfl, Filled.start (newPost_size _)⟩
  case round =>
    obtain ⟨j, hj, rfl, hfill⟩ := hrel
    have hb := hfill.out.1
    by_cases hlt : j < xs.length
    · obtain ⟨b, off, rfl, hlo, hbw, hc⟩ := hx'.out (by omega)
      obtain ⟨cs, hcl, lie, hr⟩ := hc j hlt
      have lie1 := Lie.keep (lo := lo) (lo' := lo) lie (.of_below hb) hlo hbw
      have hr2 := PostAt_stays _ _ _ lo _ _ (.of_below hb) hr
      have hsj : Hid (PostD.small xs[j]) := hsm'.out.2 j hlt
      generalize hX : xs[j] = X at hr2 hsj
      have hX' : Hid _ := hX
      have hr3 : Hid (PostAt wr lo cs X) := hr2
      clear hX hr lie hc
      obtain ⟨rfl, rFrom, rTo, rText, _⟩ := hr2
      clear rFrom rTo rText
      have z0 := lie1 0 (by simp)
      have z1 := lie1 1 (by simp)
      have z2 := lie1 2 (by simp)
      simp only [List.getElem?_cons_zero, List.getElem?_cons_succ, Nat.add_zero] at z0 z1 z2
      clear lie1 hcl hx' hmk
      go_wp2_with fail
      refine (toPost_any hr3.out).mono ?_
      rintro e w1 ⟨⟨cs1, rfl, ht1⟩, hb1⟩
      have hcl1 : cs1.length = 3 := by obtain ⟨rfl, _⟩ := ht1; rfl
      have ht1' : Hid (PostAt w1 wr.heap.size cs1 X) := ht1
      obtain ⟨rfl, rFrom, rTo, rText, _⟩ := ht1
      clear rFrom rTo rText z0 z1 z2
      obtain ⟨hv, hf⟩ := hfill.out.facts hlt hb1
      obtain ⟨v0, y0⟩ := hv 0 (by omega)
      have f0 := hf (j * 3 + 0)
      obtain ⟨v1, y1⟩ := hv 1 (by omega)
      have f1 := hf (j * 3 + 1)
      obtain ⟨v2, y2⟩ := hv 2 (by omega)
      have f2 := hf (j * 3 + 2)
      simp only [Nat.add_zero] at y0 f0
      clear hv hf
      go_wp2_with fail
      go_roundw
      case rel =>
        refine ⟨j + 1, by omega, by go_num, ?_⟩
        have hst := Filled.step PostAt_stays hfill.out hlt (Nat.le_refl _) hb1 hcl1 (by rw [hX'.out]; exact ht1'.out)
        simp only [putCells, Nat.add_assoc, Nat.reduceAdd] at hst
        exact hst
      case measure => simp [intOf]; omega
    · have e : j = xs.length := by omega
      subst e
      go_wp2_with fail
      go_ret
      exact ⟨⟨_, rfl, hfill.out.done PostAt_stays (Nat.le_refl _) (by unfold maxLen; omega)⟩, hb⟩
set_option maxHeartbeats 1000000 in
theorem toWorld_any {w : World} {lo : Nat} {cs : List Value} {x : WorldD} (hx : WorldAt w lo cs x) (hsm : x.small) :
    Calls Try.prog 6 #[.agg cs.toArray] w fun e w' => (∃ cs', e = .returned (.agg cs'.toArray) ∧ WorldAt w' w.heap.size cs' x) ∧ Below w.heap.size w w' := by
  obtain ⟨k0, k1, rfl, s0, s1, _⟩ := hx
  obtain ⟨mHeaps, mPosts, _⟩ := hsm
  have s0' : Hid (SeqAt 5 HeapAt w lo k0 x.vHeaps) := s0
  obtain ⟨a0, cap0, rfl⟩ := s0.form
  clear s0
  have mHeaps' : Hid (AllS HeapD.small x.vHeaps) := mHeaps
  clear mHeaps
  have s1' : Hid (SeqAt 3 PostAt w lo k1 x.vPosts) := s1
  obtain ⟨a1, cap1, rfl⟩ := s1.form
  clear s1
  have mPosts' : Hid (AllS PostD.small x.vPosts) := mPosts
  clear mPosts
  have hb : Below w.heap.size w (((w.alloc (.cells (List.toArray [.slice a0 x.vHeaps.length cap0, .slice a1 x.vPosts.length cap1]) 25)).alloc (.cells (List.toArray [.slice none 0 0, .slice none 0 0]) 31)).alloc (.cells (List.toArray [.slice none 0 0, .slice none 0 0]) 31)) := (((Below.refl _ _).alloc (Nat.le_refl _) _).alloc (by simp) _).alloc (by simp; omega) _
  have hz : (((w.alloc (.cells (List.toArray [.slice a0 x.vHeaps.length cap0, .slice a1 x.vPosts.length cap1]) 25)).alloc (.cells (List.toArray [.slice none 0 0, .slice none 0 0]) 31)).alloc (.cells (List.toArray [.slice none 0 0, .slice none 0 0]) 31)).heap.size = w.heap.size + 3 := by simp
  have bA : Hid (Box (((w.alloc (.cells (List.toArray [.slice a0 x.vHeaps.length cap0, .slice a1 x.vPosts.length cap1]) 25)).alloc (.cells (List.toArray [.slice none 0 0, .slice none 0 0]) 31)).alloc (.cells (List.toArray [.slice none 0 0, .slice none 0 0]) 31)) w.heap.size [.slice a0 x.vHeaps.length cap0, .slice a1 x.vPosts.length cap1] 25) := ((Box.new w _ _).alloc _).alloc _
  have bR : Hid (Box (((w.alloc (.cells (List.toArray [.slice a0 x.vHeaps.length cap0, .slice a1 x.vPosts.length cap1]) 25)).alloc (.cells (List.toArray [.slice none 0 0, .slice none 0 0]) 31)).alloc (.cells (List.toArray [.slice none 0 0, .slice none 0 0]) 31)) (w.heap.size + 1) [.slice none 0 0, .slice none 0 0] 31) := by have := (Box.new (w.alloc (.cells (List.toArray [.slice a0 x.vHeaps.length cap0, .slice a1 x.vPosts.length cap1]) 25)) [.slice none 0 0, .slice none 0 0] 31).alloc (.cells (List.toArray [.slice none 0 0, .slice none 0 0]) 31); simpa [Hid] using this
  have bO : Hid (Box (((w.alloc (.cells (List.toArray [.slice a0 x.vHeaps.length cap0, .slice a1 x.vPosts.length cap1]) 25)).alloc (.cells (List.toArray [.slice none 0 0, .slice none 0 0]) 31)).alloc (.cells (List.toArray [.slice none 0 0, .slice none 0 0]) 31)) (w.heap.size + 1 + 1) [.slice none 0 0, .slice none 0 0] 31) := by have := Box.new ((w.alloc (.cells (List.toArray [.slice a0 x.vHeaps.length cap0, .slice a1 x.vPosts.length cap1]) 25)).alloc (.cells (List.toArray [.slice none 0 0, .slice none 0 0]) 31)) [.slice none 0 0, .slice none 0 0] 31; simpa [Hid] using this
  go_enter Try.func6, Try.ntmps6
  go_wp2_with fail
  refine (toHeapS_any (s0'.out.below HeapAt_stays hb) mHeaps'.out).mono ?_
  rintro e u0 ⟨⟨kk0, rfl, ss0⟩, hbc⟩
  obtain ⟨aa0, cc0, rfl⟩ := ss0.form
  have hz0 : w.heap.size + 3 ≤ u0.heap.size := by have := hbc.size; omega
  replace hb := hb.trans (hbc.mono hb.size)
  have bA0 : Hid (Box u0 w.heap.size [.slice a0 x.vHeaps.length cap0, .slice a1 x.vPosts.length cap1] 25) := bA.out.below hbc bA.out.lt
  have bR0 : Hid (Box u0 (w.heap.size + 1) [.slice none 0 0, .slice none 0 0] 31) := bR.out.below hbc bR.out.lt
  have bO0 : Hid (Box u0 (w.heap.size + 1 + 1) [.slice none 0 0, .slice none 0 0] 31) := bO.out.below hbc bO.out.lt
  have ss0' : Hid (SeqAt 5 HeapAt u0 (w.heap.size + 3) (.slice aa0 x.vHeaps.length cc0) x.vHeaps) := ss0.keep HeapAt_stays (.lower (by omega))
  have tA0_0 := bA0.out.cell 0 rfl
  have tR0_0 := bR0.out.cell 0 rfl
  have tO0_0 := bO0.out.cell 0 rfl
  have tA0_1 := bA0.out.cell 1 rfl
  have tR0_1 := bR0.out.cell 1 rfl
  have tO0_1 := bO0.out.cell 1 rfl
  have fR0 := bR0.out.unfrozen
  have fO0 := bO0.out.unfrozen
  clear hbc ss0 bA bR bO hz
  have bA : Hid (Box (putCells u0 (w.heap.size + 1 + 1) 0 [.slice aa0 x.vHeaps.length cc0]) w.heap.size [.slice a0 x.vHeaps.length cap0, .slice a1 x.vPosts.length cap1] 25) := (bA0.out.other (by omega) _)
  have bR : Hid (Box (putCells u0 (w.heap.size + 1 + 1) 0 [.slice aa0 x.vHeaps.length cc0]) (w.heap.size + 1) [.slice none 0 0, .slice none 0 0] 31) := (bR0.out.other (by omega) _)
  have bO : Hid (Box (putCells u0 (w.heap.size + 1 + 1) 0 [.slice aa0 x.vHeaps.length cc0]) (w.heap.size + 1 + 1) [.slice aa0 x.vHeaps.length cc0, .slice none 0 0] 31) := (bO0.out.set _)
  have hz : (putCells u0 (w.heap.size + 1 + 1) 0 [.slice aa0 x.vHeaps.length cc0]).heap.size = u0.heap.size := putCells_size _ _ _ _
  replace hb : Below w.heap.size w (putCells u0 (w.heap.size + 1 + 1) 0 [.slice aa0 x.vHeaps.length cc0]) := putCells_below _ _ _ _ _ _ (by omega) hb
  have ss0n : Hid (SeqAt 5 HeapAt (putCells u0 (w.heap.size + 1 + 1) 0 [.slice aa0 x.vHeaps.length cc0]) (w.heap.size + 3) (.slice aa0 x.vHeaps.length cc0) x.vHeaps) := SeqAt.keep HeapAt_stays ss0'.out (kept_put (by omega))
  clear ss0'
  have ss0' := ss0n
  clear ss0n
  clear bA0 bR0 bO0
  go_wp2_with fail
  refine (toPostS_any (s1'.out.below PostAt_stays hb) mPosts'.out).mono ?_
  rintro e u1 ⟨⟨kk1, rfl, ss1⟩, hbc⟩
  obtain ⟨aa1, cc1, rfl⟩ := ss1.form
  have hz1 : w.heap.size + 3 ≤ u1.heap.size := by have := hbc.size; omega
  replace hb := hb.trans (hbc.mono hb.size)
  have bA1 : Hid (Box u1 w.heap.size [.slice a0 x.vHeaps.length cap0, .slice a1 x.vPosts.length cap1] 25) := bA.out.below hbc bA.out.lt
  have bR1 : Hid (Box u1 (w.heap.size + 1) [.slice none 0 0, .slice none 0 0] 31) := bR.out.below hbc bR.out.lt
  have bO1 : Hid (Box u1 (w.heap.size + 1 + 1) [.slice aa0 x.vHeaps.length cc0, .slice none 0 0] 31) := bO.out.below hbc bO.out.lt
  have ss0n : Hid (SeqAt 5 HeapAt u1 (w.heap.size + 3) (.slice aa0 x.vHeaps.length cc0) x.vHeaps) := SeqAt.below HeapAt_stays ss0'.out hbc
  clear ss0'
  have ss0' := ss0n
  clear ss0n
  have ss1' : Hid (SeqAt 3 PostAt u1 (w.heap.size + 3) (.slice aa1 x.vPosts.length cc1) x.vPosts) := ss1.keep PostAt_stays (.lower (by omega))
  clear tA0_0 tR0_0 tO0_0 tA0_1 tR0_1 tO0_1 fR0 fO0
  have tA1_0 := bA1.out.cell 0 rfl
  have tR1_0 := bR1.out.cell 0 rfl
  have tO1_0 := bO1.out.cell 0 rfl
  have tA1_1 := bA1.out.cell 1 rfl
  have tR1_1 := bR1.out.cell 1 rfl
  have tO1_1 := bO1.out.cell 1 rfl
  have fR1 := bR1.out.unfrozen
  have fO1 := bO1.out.unfrozen
  clear hbc ss1 bA bR bO hz
  have bA : Hid (Box (putCells u1 (w.heap.size + 1 + 1) 1 [.slice aa1 x.vPosts.length cc1]) w.heap.size [.slice a0 x.vHeaps.length cap0, .slice a1 x.vPosts.length cap1] 25) := (bA1.out.other (by omega) _)
  have bR : Hid (Box (putCells u1 (w.heap.size + 1 + 1) 1 [.slice aa1 x.vPosts.length cc1]) (w.heap.size + 1) [.slice none 0 0, .slice none 0 0] 31) := (bR1.out.other (by omega) _)
  have bO : Hid (Box (putCells u1 (w.heap.size + 1 + 1) 1 [.slice aa1 x.vPosts.length cc1]) (w.heap.size + 1 + 1) [.slice aa0 x.vHeaps.length cc0, .slice aa1 x.vPosts.length cc1] 31) := (bO1.out.set _)
  have hz : (putCells u1 (w.heap.size + 1 + 1) 1 [.slice aa1 x.vPosts.length cc1]).heap.size = u1.heap.size := putCells_size _ _ _ _
  replace hb : Below w.heap.size w (putCells u1 (w.heap.size + 1 + 1) 1 [.slice aa1 x.vPosts.length cc1]) := putCells_below _ _ _ _ _ _ (by omega) hb
  have ss0n : Hid (SeqAt 5 HeapAt (putCells u1 (w.heap.size + 1 + 1) 1 [.slice aa1 x.vPosts.length cc1]) (w.heap.size + 3) (.slice aa0 x.vHeaps.length cc0) x.vHeaps) := SeqAt.keep HeapAt_stays ss0'.out (kept_put (by omega))
  clear ss0'
  have ss0' := ss0n
  clear ss0n
  have ss1n : Hid (SeqAt 3 PostAt (putCells u1 (w.heap.size + 1 + 1) 1 [.slice aa1 x.vPosts.length cc1]) (w.heap.size + 3) (.slice aa1 x.vPosts.length cc1) x.vPosts) := SeqAt.keep PostAt_stays ss1'.out (kept_put (by omega))
  clear ss1'
  have ss1' := ss1n
  clear ss1n
  clear bA1 bR1 bO1
  go_wp2_with fail
  refine bodyPost_ret (v := .agg (List.toArray [.slice aa0 x.vHeaps.length cc0, .slice aa1 x.vPosts.length cc1])) (by simp [results, Try.results6, go_sem, tR1_0, tR1_1]) rfl ⟨⟨_, rfl, .slice aa0 x.vHeaps.length cc0, .slice aa1 x.vPosts.length cc1, rfl, ?s0, ?s1, trivial⟩, ?bel⟩
  case s0 => exact SeqAt.keep HeapAt_stays (SeqAt.keep HeapAt_stays ss0'.out (kept_put (g := (w.heap.size + 1)) (o := 0) (vs := [.slice aa0 x.vHeaps.length cc0, .slice aa1 x.vPosts.length cc1]) (by omega))) (.lower (by omega))
  case s1 => exact SeqAt.keep PostAt_stays (SeqAt.keep PostAt_stays ss1'.out (kept_put (g := (w.heap.size + 1)) (o := 0) (vs := [.slice aa0 x.vHeaps.length cc0, .slice aa1 x.vPosts.length cc1]) (by omega))) (.lower (by omega))
  case bel => exact putCells_below [.slice aa0 x.vHeaps.length cc0, .slice aa1 x.vPosts.length cc1] _ _ _ (w.heap.size + 1) 0 (by omega) hb
end Go.Proofs.Ytbodeijffpepfaa
