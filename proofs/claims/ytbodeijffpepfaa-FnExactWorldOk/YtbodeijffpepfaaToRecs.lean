/- What the functions to.. of the laws hand back: a copy in new memory. -/
import Derived.Test.YtbodeijffpepfaaRecs
import Derived.WalkKit
namespace Go.Proofs.Ytbodeijffpepfaa
open Go.RowKit
theorem infoInt64 : ((Try.prog.info? 2).map fun i => (i.zero, i.bytes, i.size)) = some (some (.int .i64 0), 8, 1) := by kernel_rfl
/-- the cells of n new ones -/
def newInt64 (n : Nat) : Array Value := madeCells #[.int .i64 0] (n * 1)
theorem newInt64_size (n : Nat) : (newInt64 n).size = n * 1 := size_madeCells _ _
theorem run_newInt64 (n : Nat) (h : n ≤ 1048576) (w : World) : Sem.run Try.prog (Instr.makeSlice 66 (.int .i64 (n : Int)) (.int .i64 (n : Int))) w = .ok (.slice (some ⟨w.heap.size, 0, none⟩) n n) (w.alloc (.cells (newInt64 n) 2)) := by
  obtain ⟨i, hi, he⟩ := Option.map_eq_some_iff.1 infoInt64
  simp only [Prod.mk.injEq] at he
  have := run_make (P := Try.prog) w 66 2 i _ Try.underlying66 hi he.1 .i64 .i64 (n : Int) (n : Int) (by omega) (Int.le_refl _) (by rw [he.2.1]; omega) (by omega)
  rw [he.2.2] at this
  simpa [newInt64, Value.cells] using this
set_option maxHeartbeats 800000 in
theorem toInt64S_any {w : World} {lo : Nat} {k : Value} {xs : List Int} (hk : SeqAt 1 IntAt w lo k xs) (hl : xs.length ≤ 1048576) :
    Calls Try.prog 85 #[k] w fun e w' => (∃ k', e = .returned k' ∧ SeqAt 1 IntAt w' w.heap.size k' xs) ∧ Below w.heap.size w w' := by
  obtain ⟨a, cap, rfl, hm, hx⟩ := hk
  unfold maxLen at hm
  have hx' : Hid _ := hx
  clear hx
  have hmk := run_newInt64 xs.length hl w
  go_enter Try.func85, Try.ntmps85
  go_wp2_with fail
  go_loopw [4] (fun i wr => ∃ (j : Nat), j ≤ xs.length ∧ i = .int .i64 j ∧ Hid (Filled 2 1 IntAt w wr xs w.heap.size j)) (fun i _ => xs.length - (intOf i).toNat)
  case atStart => exact ⟨0, by omega, rfl, Filled.start (newInt64_size _)⟩
  case round =>
    obtain ⟨j, hj, rfl, hfill⟩ := hrel
    have hb := hfill.out.1
    by_cases hlt : j < xs.length
    · obtain ⟨b, off, rfl, hlo, hbw, hc⟩ := hx'.out (by omega)
      obtain ⟨cs, hcl, lie, hr⟩ := hc j hlt
      have lie1 := Lie.keep (lo := lo) (lo' := lo) lie (.of_below hb) hlo hbw
      have hr' : Hid (IntAt wr wr.heap.size cs xs[j]) := hr
      generalize hX : xs[j] = X at hr
      have hX' : Hid _ := hX
      clear hX
      obtain ⟨rfl, hI⟩ := hr
      have z0 := lie1 0 (by simp)
      simp only [List.getElem?_cons_zero, Nat.add_zero, Nat.mul_one] at z0
      obtain ⟨hv, hf⟩ := hfill.out.facts hlt (Below.refl _ _)
      obtain ⟨v0, y0⟩ := hv 0 (by omega)
      simp only [Nat.add_zero, Nat.mul_one] at y0
      have f0 := hf j
      clear hv hf lie lie1 hx' hmk hc
      go_wp2_with fail
      go_roundw
      case rel =>
        refine ⟨j + 1, by omega, by go_num, ?_⟩
        have := Filled.step intAt_stays hfill.out hlt (Nat.le_refl _) (Below.refl _ _) hcl hr'.out
        simpa [putCells, Hid] using this
      case measure => simp [intOf]; omega
    · have e : j = xs.length := by omega
      subst e
      go_wp2_with fail
      go_ret
      exact ⟨⟨_, rfl, hfill.out.done intAt_stays (Nat.le_refl _) (by unfold maxLen; omega)⟩, hb⟩
set_option maxHeartbeats 1000000 in
theorem toListener_any {w : World} {lo : Nat} {cs : List Value} {x : ListenerD} (hx : ListenerAt w lo cs x) :
    Calls Try.prog 95 #[.agg cs.toArray] w fun e w' => (∃ cs', e = .returned (.agg cs'.toArray) ∧ ListenerAt w' w.heap.size cs' x) ∧ Below w.heap.size w w' := by
  obtain ⟨rfl, rType, rStop, rName, _⟩ := hx
  go_enter Try.func95, Try.ntmps95
  go_wp2_with fail
  exact bodyPost_ret (v := .agg (List.toArray [.string x.vType, .bool x.vCapture, .bool x.vOnce, .int .i64 x.vStop, .string x.vName])) (by simp [results, Try.results95, go_sem]) rfl ⟨⟨_, rfl, rfl, rType, rStop, rName, trivial⟩, (((Below.refl _ _).alloc (Nat.le_refl _) _).alloc (by simp) _).alloc (by simp; omega) _⟩
theorem infoListener : ((Try.prog.info? 100).map fun i => (i.zero, i.bytes, i.size)) = some (some (.agg #[.string ByteArray.empty, .bool false, .bool false, .int .i64 0, .string ByteArray.empty]), 48, 5) := by kernel_rfl
/-- the cells of n new ones -/
def newListener (n : Nat) : Array Value := madeCells #[.string ByteArray.empty, .bool false, .bool false, .int .i64 0, .string ByteArray.empty] (n * 5)
theorem newListener_size (n : Nat) : (newListener n).size = n * 5 := size_madeCells _ _
theorem run_newListener (n : Nat) (h : n ≤ 1048576) (w : World) : Sem.run Try.prog (Instr.makeSlice 67 (.int .i64 (n : Int)) (.int .i64 (n : Int))) w = .ok (.slice (some ⟨w.heap.size, 0, none⟩) n n) (w.alloc (.cells (newListener n) 100)) := by
  obtain ⟨i, hi, he⟩ := Option.map_eq_some_iff.1 infoListener
  simp only [Prod.mk.injEq] at he
  have := run_make (P := Try.prog) w 67 100 i _ Try.underlying67 hi he.1 .i64 .i64 (n : Int) (n : Int) (by omega) (Int.le_refl _) (by rw [he.2.1]; omega) (by omega)
  rw [he.2.2] at this
  simpa [newListener, Value.cells] using this
set_option maxHeartbeats 1000000 in
theorem toListenerS_any {w : World} {lo : Nat} {k : Value} {xs : List ListenerD} (hk : SeqAt 5 ListenerAt w lo k xs) (hsm : AllS ListenerD.small xs) :
    Calls Try.prog 86 #[k] w fun e w' => (∃ k', e = .returned k' ∧ SeqAt 5 ListenerAt w' w.heap.size k' xs) ∧ Below w.heap.size w w' := by
  obtain ⟨a, cap, rfl, hm, hx⟩ := hk
  unfold maxLen at hm
  have hx' : Hid _ := hx
  have hsm' : Hid (AllS ListenerD.small xs) := hsm
  have hl := hsm.1
  clear hx hsm
  have hmk := run_newListener xs.length hl w
  go_enter Try.func86, Try.ntmps86
  go_wp2_with fail
  go_loopw [4] (fun i wr => ∃ (j : Nat), j ≤ xs.length ∧ i = .int .i64 j ∧ Hid (Filled 100 5 ListenerAt w wr xs w.heap.size j)) (fun i _ => xs.length - (intOf i).toNat)
  case atStart => exact ⟨0, by omega, rfl, Filled.start (newListener_size _)⟩
  case round =>
    obtain ⟨j, hj, rfl, hfill⟩ := hrel
    have hb := hfill.out.1
    by_cases hlt : j < xs.length
    · obtain ⟨b, off, rfl, hlo, hbw, hc⟩ := hx'.out (by omega)
      obtain ⟨cs, hcl, lie, hr⟩ := hc j hlt
      have lie1 := Lie.keep (lo := lo) (lo' := lo) lie (.of_below hb) hlo hbw
      have hr2 := ListenerAt_stays _ _ _ lo _ _ (.of_below hb) hr
      have hsj : Hid (ListenerD.small xs[j]) := hsm'.out.2 j hlt
      generalize hX : xs[j] = X at hr2 hsj
      have hX' : Hid _ := hX
      have hr3 : Hid (ListenerAt wr lo cs X) := hr2
      clear hX hr lie hc
      obtain ⟨rfl, rType, rStop, rName, _⟩ := hr2
      clear rType rStop rName
      have z0 := lie1 0 (by simp)
      have z1 := lie1 1 (by simp)
      have z2 := lie1 2 (by simp)
      have z3 := lie1 3 (by simp)
      have z4 := lie1 4 (by simp)
      simp only [List.getElem?_cons_zero, List.getElem?_cons_succ, Nat.add_zero] at z0 z1 z2 z3 z4
      clear lie1 hcl hx' hmk
      go_wp2_with fail
      refine (toListener_any hr3.out).mono ?_
      rintro e w1 ⟨⟨cs1, rfl, ht1⟩, hb1⟩
      have hcl1 : cs1.length = 5 := by obtain ⟨rfl, _⟩ := ht1; rfl
      have ht1' : Hid (ListenerAt w1 wr.heap.size cs1 X) := ht1
      obtain ⟨rfl, rType, rStop, rName, _⟩ := ht1
      clear rType rStop rName z0 z1 z2 z3 z4
      obtain ⟨hv, hf⟩ := hfill.out.facts hlt hb1
      obtain ⟨v0, y0⟩ := hv 0 (by omega)
      have f0 := hf (j * 5 + 0)
      obtain ⟨v1, y1⟩ := hv 1 (by omega)
      have f1 := hf (j * 5 + 1)
      obtain ⟨v2, y2⟩ := hv 2 (by omega)
      have f2 := hf (j * 5 + 2)
      obtain ⟨v3, y3⟩ := hv 3 (by omega)
      have f3 := hf (j * 5 + 3)
      obtain ⟨v4, y4⟩ := hv 4 (by omega)
      have f4 := hf (j * 5 + 4)
      simp only [Nat.add_zero] at y0 f0
      clear hv hf
      go_wp2_with fail
      go_roundw
      case rel =>
        refine ⟨j + 1, by omega, by go_num, ?_⟩
        have hst := Filled.step ListenerAt_stays hfill.out hlt (Nat.le_refl _) hb1 hcl1 (by rw [hX'.out]; exact ht1'.out)
        simp only [putCells, Nat.add_assoc, Nat.reduceAdd] at hst
        exact hst
      case measure => simp [intOf]; omega
    · have e : j = xs.length := by omega
      subst e
      go_wp2_with fail
      go_ret
      exact ⟨⟨_, rfl, hfill.out.done ListenerAt_stays (Nat.le_refl _) (by unfold maxLen; omega)⟩, hb⟩
set_option maxHeartbeats 1000000 in
theorem toNode_any {w : World} {lo : Nat} {cs : List Value} {x : NodeD} (hx : NodeAt w lo cs x) (hsm : x.small) :
    Calls Try.prog 64 #[.agg cs.toArray] w fun e w' => (∃ cs', e = .returned (.agg cs'.toArray) ∧ NodeAt w' w.heap.size cs' x) ∧ Below w.heap.size w w' := by
  obtain ⟨k3, k5, rfl, s3, s5, rId, rTag, rParent, rWrapper, _⟩ := hx
  obtain ⟨_, mKids, mListeners, _⟩ := hsm
  have s3' : Hid (SeqAt 1 IntAt w lo k3 x.vKids) := s3
  obtain ⟨a3, cap3, rfl⟩ := s3.form
  clear s3
  have mKids' : Hid (x.vKids.length ≤ 1048576) := mKids
  clear mKids
  have s5' : Hid (SeqAt 5 ListenerAt w lo k5 x.vListeners) := s5
  obtain ⟨a5, cap5, rfl⟩ := s5.form
  clear s5
  have mListeners' : Hid (AllS ListenerD.small x.vListeners) := mListeners
  clear mListeners
  have hb : Below w.heap.size w (((w.alloc (.cells (List.toArray [.int .i64 x.vId, .string x.vTag, .int .i64 x.vParent, .slice a3 x.vKids.length cap3, .int .i64 x.vWrapper, .slice a5 x.vListeners.length cap5]) 118)).alloc (.cells (List.toArray [.int .i64 0, .string ⟨#[]⟩, .int .i64 0, .slice none 0 0, .int .i64 0, .slice none 0 0]) 69)).alloc (.cells (List.toArray [.int .i64 x.vId, .string x.vTag, .int .i64 x.vParent, .slice none 0 0, .int .i64 0, .slice none 0 0]) 69)) := (((Below.refl _ _).alloc (Nat.le_refl _) _).alloc (by simp) _).alloc (by simp; omega) _
  have hz : (((w.alloc (.cells (List.toArray [.int .i64 x.vId, .string x.vTag, .int .i64 x.vParent, .slice a3 x.vKids.length cap3, .int .i64 x.vWrapper, .slice a5 x.vListeners.length cap5]) 118)).alloc (.cells (List.toArray [.int .i64 0, .string ⟨#[]⟩, .int .i64 0, .slice none 0 0, .int .i64 0, .slice none 0 0]) 69)).alloc (.cells (List.toArray [.int .i64 x.vId, .string x.vTag, .int .i64 x.vParent, .slice none 0 0, .int .i64 0, .slice none 0 0]) 69)).heap.size = w.heap.size + 3 := by simp
  have bA : Hid (Box (((w.alloc (.cells (List.toArray [.int .i64 x.vId, .string x.vTag, .int .i64 x.vParent, .slice a3 x.vKids.length cap3, .int .i64 x.vWrapper, .slice a5 x.vListeners.length cap5]) 118)).alloc (.cells (List.toArray [.int .i64 0, .string ⟨#[]⟩, .int .i64 0, .slice none 0 0, .int .i64 0, .slice none 0 0]) 69)).alloc (.cells (List.toArray [.int .i64 x.vId, .string x.vTag, .int .i64 x.vParent, .slice none 0 0, .int .i64 0, .slice none 0 0]) 69)) w.heap.size [.int .i64 x.vId, .string x.vTag, .int .i64 x.vParent, .slice a3 x.vKids.length cap3, .int .i64 x.vWrapper, .slice a5 x.vListeners.length cap5] 118) := ((Box.new w _ _).alloc _).alloc _
  have bR : Hid (Box (((w.alloc (.cells (List.toArray [.int .i64 x.vId, .string x.vTag, .int .i64 x.vParent, .slice a3 x.vKids.length cap3, .int .i64 x.vWrapper, .slice a5 x.vListeners.length cap5]) 118)).alloc (.cells (List.toArray [.int .i64 0, .string ⟨#[]⟩, .int .i64 0, .slice none 0 0, .int .i64 0, .slice none 0 0]) 69)).alloc (.cells (List.toArray [.int .i64 x.vId, .string x.vTag, .int .i64 x.vParent, .slice none 0 0, .int .i64 0, .slice none 0 0]) 69)) (w.heap.size + 1) [.int .i64 0, .string ⟨#[]⟩, .int .i64 0, .slice none 0 0, .int .i64 0, .slice none 0 0] 69) := by have := (Box.new (w.alloc (.cells (List.toArray [.int .i64 x.vId, .string x.vTag, .int .i64 x.vParent, .slice a3 x.vKids.length cap3, .int .i64 x.vWrapper, .slice a5 x.vListeners.length cap5]) 118)) [.int .i64 0, .string ⟨#[]⟩, .int .i64 0, .slice none 0 0, .int .i64 0, .slice none 0 0] 69).alloc (.cells (List.toArray [.int .i64 x.vId, .string x.vTag, .int .i64 x.vParent, .slice none 0 0, .int .i64 0, .slice none 0 0]) 69); simpa [Hid] using this
  have bO : Hid (Box (((w.alloc (.cells (List.toArray [.int .i64 x.vId, .string x.vTag, .int .i64 x.vParent, .slice a3 x.vKids.length cap3, .int .i64 x.vWrapper, .slice a5 x.vListeners.length cap5]) 118)).alloc (.cells (List.toArray [.int .i64 0, .string ⟨#[]⟩, .int .i64 0, .slice none 0 0, .int .i64 0, .slice none 0 0]) 69)).alloc (.cells (List.toArray [.int .i64 x.vId, .string x.vTag, .int .i64 x.vParent, .slice none 0 0, .int .i64 0, .slice none 0 0]) 69)) (w.heap.size + 1 + 1) [.int .i64 x.vId, .string x.vTag, .int .i64 x.vParent, .slice none 0 0, .int .i64 0, .slice none 0 0] 69) := by have := Box.new ((w.alloc (.cells (List.toArray [.int .i64 x.vId, .string x.vTag, .int .i64 x.vParent, .slice a3 x.vKids.length cap3, .int .i64 x.vWrapper, .slice a5 x.vListeners.length cap5]) 118)).alloc (.cells (List.toArray [.int .i64 0, .string ⟨#[]⟩, .int .i64 0, .slice none 0 0, .int .i64 0, .slice none 0 0]) 69)) [.int .i64 x.vId, .string x.vTag, .int .i64 x.vParent, .slice none 0 0, .int .i64 0, .slice none 0 0] 69; simpa [Hid] using this
  go_enter Try.func64, Try.ntmps64
  go_wp2_with fail
  refine (toInt64S_any (s3'.out.below intAt_stays hb) mKids'.out).mono ?_
  rintro e u3 ⟨⟨kk3, rfl, ss3⟩, hbc⟩
  obtain ⟨aa3, cc3, rfl⟩ := ss3.form
  have hz3 : w.heap.size + 3 ≤ u3.heap.size := by have := hbc.size; omega
  replace hb := hb.trans (hbc.mono hb.size)
  have bA3 : Hid (Box u3 w.heap.size [.int .i64 x.vId, .string x.vTag, .int .i64 x.vParent, .slice a3 x.vKids.length cap3, .int .i64 x.vWrapper, .slice a5 x.vListeners.length cap5] 118) := bA.out.below hbc bA.out.lt
  have bR3 : Hid (Box u3 (w.heap.size + 1) [.int .i64 0, .string ⟨#[]⟩, .int .i64 0, .slice none 0 0, .int .i64 0, .slice none 0 0] 69) := bR.out.below hbc bR.out.lt
  have bO3 : Hid (Box u3 (w.heap.size + 1 + 1) [.int .i64 x.vId, .string x.vTag, .int .i64 x.vParent, .slice none 0 0, .int .i64 0, .slice none 0 0] 69) := bO.out.below hbc bO.out.lt
  have ss3' : Hid (SeqAt 1 IntAt u3 (w.heap.size + 3) (.slice aa3 x.vKids.length cc3) x.vKids) := ss3.keep intAt_stays (.lower (by omega))
  have tA3_0 := bA3.out.cell 0 rfl
  have tR3_0 := bR3.out.cell 0 rfl
  have tO3_0 := bO3.out.cell 0 rfl
  have tA3_1 := bA3.out.cell 1 rfl
  have tR3_1 := bR3.out.cell 1 rfl
  have tO3_1 := bO3.out.cell 1 rfl
  have tA3_2 := bA3.out.cell 2 rfl
  have tR3_2 := bR3.out.cell 2 rfl
  have tO3_2 := bO3.out.cell 2 rfl
  have tA3_3 := bA3.out.cell 3 rfl
  have tR3_3 := bR3.out.cell 3 rfl
  have tO3_3 := bO3.out.cell 3 rfl
  have tA3_4 := bA3.out.cell 4 rfl
  have tR3_4 := bR3.out.cell 4 rfl
  have tO3_4 := bO3.out.cell 4 rfl
  have tA3_5 := bA3.out.cell 5 rfl
  have tR3_5 := bR3.out.cell 5 rfl
  have tO3_5 := bO3.out.cell 5 rfl
  have fR3 := bR3.out.unfrozen
  have fO3 := bO3.out.unfrozen
  clear hbc ss3 bA bR bO hz
  have bA : Hid (Box (putCells u3 (w.heap.size + 1 + 1) 3 [.slice aa3 x.vKids.length cc3, .int .i64 x.vWrapper]) w.heap.size [.int .i64 x.vId, .string x.vTag, .int .i64 x.vParent, .slice a3 x.vKids.length cap3, .int .i64 x.vWrapper, .slice a5 x.vListeners.length cap5] 118) := ((bA3.out.other (by omega) _).other (by omega) _)
  have bR : Hid (Box (putCells u3 (w.heap.size + 1 + 1) 3 [.slice aa3 x.vKids.length cc3, .int .i64 x.vWrapper]) (w.heap.size + 1) [.int .i64 0, .string ⟨#[]⟩, .int .i64 0, .slice none 0 0, .int .i64 0, .slice none 0 0] 69) := ((bR3.out.other (by omega) _).other (by omega) _)
  have bO : Hid (Box (putCells u3 (w.heap.size + 1 + 1) 3 [.slice aa3 x.vKids.length cc3, .int .i64 x.vWrapper]) (w.heap.size + 1 + 1) [.int .i64 x.vId, .string x.vTag, .int .i64 x.vParent, .slice aa3 x.vKids.length cc3, .int .i64 x.vWrapper, .slice none 0 0] 69) := ((bO3.out.set _).set _)
  have hz : (putCells u3 (w.heap.size + 1 + 1) 3 [.slice aa3 x.vKids.length cc3, .int .i64 x.vWrapper]).heap.size = u3.heap.size := putCells_size _ _ _ _
  replace hb : Below w.heap.size w (putCells u3 (w.heap.size + 1 + 1) 3 [.slice aa3 x.vKids.length cc3, .int .i64 x.vWrapper]) := putCells_below _ _ _ _ _ _ (by omega) hb
  have ss3n : Hid (SeqAt 1 IntAt (putCells u3 (w.heap.size + 1 + 1) 3 [.slice aa3 x.vKids.length cc3, .int .i64 x.vWrapper]) (w.heap.size + 3) (.slice aa3 x.vKids.length cc3) x.vKids) := SeqAt.keep intAt_stays ss3'.out (kept_put (by omega))
  clear ss3'
  have ss3' := ss3n
  clear ss3n
  clear bA3 bR3 bO3
  go_wp2_with fail
  refine (toListenerS_any (s5'.out.below ListenerAt_stays hb) mListeners'.out).mono ?_
  rintro e u5 ⟨⟨kk5, rfl, ss5⟩, hbc⟩
  obtain ⟨aa5, cc5, rfl⟩ := ss5.form
  have hz5 : w.heap.size + 3 ≤ u5.heap.size := by have := hbc.size; omega
  replace hb := hb.trans (hbc.mono hb.size)
  have bA5 : Hid (Box u5 w.heap.size [.int .i64 x.vId, .string x.vTag, .int .i64 x.vParent, .slice a3 x.vKids.length cap3, .int .i64 x.vWrapper, .slice a5 x.vListeners.length cap5] 118) := bA.out.below hbc bA.out.lt
  have bR5 : Hid (Box u5 (w.heap.size + 1) [.int .i64 0, .string ⟨#[]⟩, .int .i64 0, .slice none 0 0, .int .i64 0, .slice none 0 0] 69) := bR.out.below hbc bR.out.lt
  have bO5 : Hid (Box u5 (w.heap.size + 1 + 1) [.int .i64 x.vId, .string x.vTag, .int .i64 x.vParent, .slice aa3 x.vKids.length cc3, .int .i64 x.vWrapper, .slice none 0 0] 69) := bO.out.below hbc bO.out.lt
  have ss3n : Hid (SeqAt 1 IntAt u5 (w.heap.size + 3) (.slice aa3 x.vKids.length cc3) x.vKids) := SeqAt.below intAt_stays ss3'.out hbc
  clear ss3'
  have ss3' := ss3n
  clear ss3n
  have ss5' : Hid (SeqAt 5 ListenerAt u5 (w.heap.size + 3) (.slice aa5 x.vListeners.length cc5) x.vListeners) := ss5.keep ListenerAt_stays (.lower (by omega))
  clear tA3_0 tR3_0 tO3_0 tA3_1 tR3_1 tO3_1 tA3_2 tR3_2 tO3_2 tA3_3 tR3_3 tO3_3 tA3_4 tR3_4 tO3_4 tA3_5 tR3_5 tO3_5 fR3 fO3
  have tA5_0 := bA5.out.cell 0 rfl
  have tR5_0 := bR5.out.cell 0 rfl
  have tO5_0 := bO5.out.cell 0 rfl
  have tA5_1 := bA5.out.cell 1 rfl
  have tR5_1 := bR5.out.cell 1 rfl
  have tO5_1 := bO5.out.cell 1 rfl
  have tA5_2 := bA5.out.cell 2 rfl
  have tR5_2 := bR5.out.cell 2 rfl
  have tO5_2 := bO5.out.cell 2 rfl
  have tA5_3 := bA5.out.cell 3 rfl
  have tR5_3 := bR5.out.cell 3 rfl
  have tO5_3 := bO5.out.cell 3 rfl
  have tA5_4 := bA5.out.cell 4 rfl
  have tR5_4 := bR5.out.cell 4 rfl
  have tO5_4 := bO5.out.cell 4 rfl
  have tA5_5 := bA5.out.cell 5 rfl
  have tR5_5 := bR5.out.cell 5 rfl
  have tO5_5 := bO5.out.cell 5 rfl
  have fR5 := bR5.out.unfrozen
  have fO5 := bO5.out.unfrozen
  clear hbc ss5 bA bR bO hz
  have bA : Hid (Box (putCells u5 (w.heap.size + 1 + 1) 5 [.slice aa5 x.vListeners.length cc5]) w.heap.size [.int .i64 x.vId, .string x.vTag, .int .i64 x.vParent, .slice a3 x.vKids.length cap3, .int .i64 x.vWrapper, .slice a5 x.vListeners.length cap5] 118) := (bA5.out.other (by omega) _)
  have bR : Hid (Box (putCells u5 (w.heap.size + 1 + 1) 5 [.slice aa5 x.vListeners.length cc5]) (w.heap.size + 1) [.int .i64 0, .string ⟨#[]⟩, .int .i64 0, .slice none 0 0, .int .i64 0, .slice none 0 0] 69) := (bR5.out.other (by omega) _)
  have bO : Hid (Box (putCells u5 (w.heap.size + 1 + 1) 5 [.slice aa5 x.vListeners.length cc5]) (w.heap.size + 1 + 1) [.int .i64 x.vId, .string x.vTag, .int .i64 x.vParent, .slice aa3 x.vKids.length cc3, .int .i64 x.vWrapper, .slice aa5 x.vListeners.length cc5] 69) := (bO5.out.set _)
  have hz : (putCells u5 (w.heap.size + 1 + 1) 5 [.slice aa5 x.vListeners.length cc5]).heap.size = u5.heap.size := putCells_size _ _ _ _
  replace hb : Below w.heap.size w (putCells u5 (w.heap.size + 1 + 1) 5 [.slice aa5 x.vListeners.length cc5]) := putCells_below _ _ _ _ _ _ (by omega) hb
  have ss3n : Hid (SeqAt 1 IntAt (putCells u5 (w.heap.size + 1 + 1) 5 [.slice aa5 x.vListeners.length cc5]) (w.heap.size + 3) (.slice aa3 x.vKids.length cc3) x.vKids) := SeqAt.keep intAt_stays ss3'.out (kept_put (by omega))
  clear ss3'
  have ss3' := ss3n
  clear ss3n
  have ss5n : Hid (SeqAt 5 ListenerAt (putCells u5 (w.heap.size + 1 + 1) 5 [.slice aa5 x.vListeners.length cc5]) (w.heap.size + 3) (.slice aa5 x.vListeners.length cc5) x.vListeners) := SeqAt.keep ListenerAt_stays ss5'.out (kept_put (by omega))
  clear ss5'
  have ss5' := ss5n
  clear ss5n
  clear bA5 bR5 bO5
  go_wp2_with fail
  refine bodyPost_ret (v := .agg (List.toArray [.int .i64 x.vId, .string x.vTag, .int .i64 x.vParent, .slice aa3 x.vKids.length cc3, .int .i64 x.vWrapper, .slice aa5 x.vListeners.length cc5])) (by simp [results, Try.results64, go_sem, tR5_0, tR5_1, tR5_2, tR5_3, tR5_4, tR5_5]) rfl ⟨⟨_, rfl, .slice aa3 x.vKids.length cc3, .slice aa5 x.vListeners.length cc5, rfl, ?s3, ?s5, rId, rTag, rParent, rWrapper, trivial⟩, ?bel⟩
  case s3 => exact SeqAt.keep intAt_stays (SeqAt.keep intAt_stays ss3'.out (kept_put (g := (w.heap.size + 1)) (o := 0) (vs := [.int .i64 x.vId, .string x.vTag, .int .i64 x.vParent, .slice aa3 x.vKids.length cc3, .int .i64 x.vWrapper, .slice aa5 x.vListeners.length cc5]) (by omega))) (.lower (by omega))
  case s5 => exact SeqAt.keep ListenerAt_stays (SeqAt.keep ListenerAt_stays ss5'.out (kept_put (g := (w.heap.size + 1)) (o := 0) (vs := [.int .i64 x.vId, .string x.vTag, .int .i64 x.vParent, .slice aa3 x.vKids.length cc3, .int .i64 x.vWrapper, .slice aa5 x.vListeners.length cc5]) (by omega))) (.lower (by omega))
  case bel => exact putCells_below [.int .i64 x.vId, .string x.vTag, .int .i64 x.vParent, .slice aa3 x.vKids.length cc3, .int .i64 x.vWrapper, .slice aa5 x.vListeners.length cc5] _ _ _ (w.heap.size + 1) 0 (by omega) hb
theorem infoNode : ((Try.prog.info? 69).map fun i => (i.zero, i.bytes, i.size)) = some (some (.agg #[.int .i64 0, .string ByteArray.empty, .int .i64 0, .slice none 0 0, .int .i64 0, .slice none 0 0]), 88, 6) := by kernel_rfl
/-- the cells of n new ones -/
def newNode (n : Nat) : Array Value := madeCells #[.int .i64 0, .string ByteArray.empty, .int .i64 0, .slice none 0 0, .int .i64 0, .slice none 0 0] (n * 6)
theorem newNode_size (n : Nat) : (newNode n).size = n * 6 := size_madeCells _ _
theorem run_newNode (n : Nat) (h : n ≤ 1048576) (w : World) : Sem.run Try.prog (Instr.makeSlice 39 (.int .i64 (n : Int)) (.int .i64 (n : Int))) w = .ok (.slice (some ⟨w.heap.size, 0, none⟩) n n) (w.alloc (.cells (newNode n) 69)) := by
  obtain ⟨i, hi, he⟩ := Option.map_eq_some_iff.1 infoNode
  simp only [Prod.mk.injEq] at he
  have := run_make (P := Try.prog) w 39 69 i _ Try.underlying39 hi he.1 .i64 .i64 (n : Int) (n : Int) (by omega) (Int.le_refl _) (by rw [he.2.1]; omega) (by omega)
  rw [he.2.2] at this
  simpa [newNode, Value.cells] using this
set_option maxHeartbeats 1000000 in
theorem toNodeS_any {w : World} {lo : Nat} {k : Value} {xs : List NodeD} (hk : SeqAt 6 NodeAt w lo k xs) (hsm : AllS NodeD.small xs) :
    Calls Try.prog 47 #[k] w fun e w' => (∃ k', e = .returned k' ∧ SeqAt 6 NodeAt w' w.heap.size k' xs) ∧ Below w.heap.size w w' := by
  obtain ⟨a, cap, rfl, hm, hx⟩ := hk
  unfold maxLen at hm
  have hx' : Hid _ := hx
  have hsm' : Hid (AllS NodeD.small xs) := hsm
  have hl := hsm.1
  clear hx hsm
  have hmk := run_newNode xs.length hl w
  go_enter Try.func47, Try.ntmps47
  go_wp2_with fail
  go_loopw [4] (fun i wr => ∃ (j : Nat), j ≤ xs.length ∧ i = .int .i64 j ∧ Hid (Filled 69 6 NodeAt w wr xs w.heap.size j)) (fun i _ => xs.length - (intOf i).toNat)
  case atStart => exact ⟨0, by omega, rfl, Filled.start (newNode_size _)⟩
  case round =>
    obtain ⟨j, hj, rfl, hfill⟩ := hrel
    have hb := hfill.out.1
    by_cases hlt : j < xs.length
    · obtain ⟨b, off, rfl, hlo, hbw, hc⟩ := hx'.out (by omega)
      obtain ⟨cs, hcl, lie, hr⟩ := hc j hlt
      have lie1 := Lie.keep (lo := lo) (lo' := lo) lie (.of_below hb) hlo hbw
      have hr2 := NodeAt_stays _ _ _ lo _ _ (.of_below hb) hr
      have hsj : Hid (NodeD.small xs[j]) := hsm'.out.2 j hlt
      generalize hX : xs[j] = X at hr2 hsj
      have hX' : Hid _ := hX
      have hr3 : Hid (NodeAt wr lo cs X) := hr2
      clear hX hr lie hc
      obtain ⟨k3, k5, rfl, s3, s5, rId, rTag, rParent, rWrapper, _⟩ := hr2
      clear s3 s5 rId rTag rParent rWrapper
      have z0 := lie1 0 (by simp)
      have z1 := lie1 1 (by simp)
      have z2 := lie1 2 (by simp)
      have z3 := lie1 3 (by simp)
      have z4 := lie1 4 (by simp)
      have z5 := lie1 5 (by simp)
      simp only [List.getElem?_cons_zero, List.getElem?_cons_succ, Nat.add_zero] at z0 z1 z2 z3 z4 z5
      clear lie1 hcl hx' hmk
      go_wp2_with fail
      refine (toNode_any hr3.out hsj.out).mono ?_
      rintro e w1 ⟨⟨cs1, rfl, ht1⟩, hb1⟩
      have hcl1 : cs1.length = 6 := by obtain ⟨_, _, rfl, _⟩ := ht1; rfl
      have ht1' : Hid (NodeAt w1 wr.heap.size cs1 X) := ht1
      obtain ⟨g3, g5, rfl, t3, t5, rId, rTag, rParent, rWrapper, _⟩ := ht1
      obtain ⟨b3, d3, rfl⟩ := t3.form
      obtain ⟨b5, d5, rfl⟩ := t5.form
      clear t3 t5 rId rTag rParent rWrapper z0 z1 z2 z3 z4 z5
      obtain ⟨hv, hf⟩ := hfill.out.facts hlt hb1
      obtain ⟨v0, y0⟩ := hv 0 (by omega)
      have f0 := hf (j * 6 + 0)
      obtain ⟨v1, y1⟩ := hv 1 (by omega)
      have f1 := hf (j * 6 + 1)
      obtain ⟨v2, y2⟩ := hv 2 (by omega)
      have f2 := hf (j * 6 + 2)
      obtain ⟨v3, y3⟩ := hv 3 (by omega)
      have f3 := hf (j * 6 + 3)
      obtain ⟨v4, y4⟩ := hv 4 (by omega)
      have f4 := hf (j * 6 + 4)
      obtain ⟨v5, y5⟩ := hv 5 (by omega)
      have f5 := hf (j * 6 + 5)
      simp only [Nat.add_zero] at y0 f0
      clear hv hf
      go_wp2_with fail
      go_roundw
      case rel =>
        refine ⟨j + 1, by omega, by go_num, ?_⟩
        have hst := Filled.step NodeAt_stays hfill.out hlt (Nat.le_refl _) hb1 hcl1 (by rw [hX'.out]; exact ht1'.out)
        simp only [putCells, Nat.add_assoc, Nat.reduceAdd] at hst
        exact hst
      case measure => simp [intOf]; omega
    · have e : j = xs.length := by omega
      subst e
      go_wp2_with fail
      go_ret
      exact ⟨⟨_, rfl, hfill.out.done NodeAt_stays (Nat.le_refl _) (by unfold maxLen; omega)⟩, hb⟩
set_option maxHeartbeats 1000000 in
theorem toField_any {w : World} {lo : Nat} {cs : List Value} {x : FieldD} (hx : FieldAt w lo cs x) :
    Calls Try.prog 66 #[.agg cs.toArray] w fun e w' => (∃ cs', e = .returned (.agg cs'.toArray) ∧ FieldAt w' w.heap.size cs' x) ∧ Below w.heap.size w w' := by
  obtain ⟨rfl, rName, rObj, _⟩ := hx
  go_enter Try.func66, Try.ntmps66
  go_wp2_with fail
  exact bodyPost_ret (v := .agg (List.toArray [.string x.vName, .int .i64 x.vObj])) (by simp [results, Try.results66, go_sem]) rfl ⟨⟨_, rfl, rfl, rName, rObj, trivial⟩, (((Below.refl _ _).alloc (Nat.le_refl _) _).alloc (by simp) _).alloc (by simp; omega) _⟩
theorem infoField : ((Try.prog.info? 97).map fun i => (i.zero, i.bytes, i.size)) = some (some (.agg #[.string ByteArray.empty, .int .i64 0]), 24, 2) := by kernel_rfl
/-- the cells of n new ones -/
def newField (n : Nat) : Array Value := madeCells #[.string ByteArray.empty, .int .i64 0] (n * 2)
theorem newField_size (n : Nat) : (newField n).size = n * 2 := size_madeCells _ _
theorem run_newField (n : Nat) (h : n ≤ 1048576) (w : World) : Sem.run Try.prog (Instr.makeSlice 41 (.int .i64 (n : Int)) (.int .i64 (n : Int))) w = .ok (.slice (some ⟨w.heap.size, 0, none⟩) n n) (w.alloc (.cells (newField n) 97)) := by
  obtain ⟨i, hi, he⟩ := Option.map_eq_some_iff.1 infoField
  simp only [Prod.mk.injEq] at he
  have := run_make (P := Try.prog) w 41 97 i _ Try.underlying41 hi he.1 .i64 .i64 (n : Int) (n : Int) (by omega) (Int.le_refl _) (by rw [he.2.1]; omega) (by omega)
  rw [he.2.2] at this
  simpa [newField, Value.cells] using this
set_option maxHeartbeats 1000000 in
theorem toFieldS_any {w : World} {lo : Nat} {k : Value} {xs : List FieldD} (hk : SeqAt 2 FieldAt w lo k xs) (hsm : AllS FieldD.small xs) :
    Calls Try.prog 49 #[k] w fun e w' => (∃ k', e = .returned k' ∧ SeqAt 2 FieldAt w' w.heap.size k' xs) ∧ Below w.heap.size w w' := by
  obtain ⟨a, cap, rfl, hm, hx⟩ := hk
  unfold maxLen at hm
  have hx' : Hid _ := hx
  have hsm' : Hid (AllS FieldD.small xs) := hsm
  have hl := hsm.1
  clear hx hsm
  have hmk := run_newField xs.length hl w
  go_enter Try.func49, Try.ntmps49
  go_wp2_with fail
  go_loopw [4] (fun i wr => ∃ (j : Nat), j ≤ xs.length ∧ i = .int .i64 j ∧ Hid (Filled 97 2 FieldAt w wr xs w.heap.size j)) (fun i _ => xs.length - (intOf i).toNat)
  case atStart => exact ⟨0, by omega, rfl, Filled.start (newField_size _)⟩
  case round =>
    obtain ⟨j, hj, rfl, hfill⟩ := hrel
    have hb := hfill.out.1
    by_cases hlt : j < xs.length
    · obtain ⟨b, off, rfl, hlo, hbw, hc⟩ := hx'.out (by omega)
      obtain ⟨cs, hcl, lie, hr⟩ := hc j hlt
      have lie1 := Lie.keep (lo := lo) (lo' := lo) lie (.of_below hb) hlo hbw
      have hr2 := FieldAt_stays _ _ _ lo _ _ (.of_below hb) hr
      have hsj : Hid (FieldD.small xs[j]) := hsm'.out.2 j hlt
      generalize hX : xs[j] = X at hr2 hsj
      have hX' : Hid _ := hX
      have hr3 : Hid (FieldAt wr lo cs X) := hr2
      clear hX hr lie hc
      obtain ⟨rfl, rName, rObj, _⟩ := hr2
      clear rName rObj
      have z0 := lie1 0 (by simp)
      have z1 := lie1 1 (by simp)
      simp only [List.getElem?_cons_zero, List.getElem?_cons_succ, Nat.add_zero] at z0 z1
      clear lie1 hcl hx' hmk
      go_wp2_with fail
      refine (toField_any hr3.out).mono ?_
      rintro e w1 ⟨⟨cs1, rfl, ht1⟩, hb1⟩
      have hcl1 : cs1.length = 2 := by obtain ⟨rfl, _⟩ := ht1; rfl
      have ht1' : Hid (FieldAt w1 wr.heap.size cs1 X) := ht1
      obtain ⟨rfl, rName, rObj, _⟩ := ht1
      clear rName rObj z0 z1
      obtain ⟨hv, hf⟩ := hfill.out.facts hlt hb1
      obtain ⟨v0, y0⟩ := hv 0 (by omega)
      have f0 := hf (j * 2 + 0)
      obtain ⟨v1, y1⟩ := hv 1 (by omega)
      have f1 := hf (j * 2 + 1)
      simp only [Nat.add_zero] at y0 f0
      clear hv hf
      go_wp2_with fail
      go_roundw
      case rel =>
        refine ⟨j + 1, by omega, by go_num, ?_⟩
        have hst := Filled.step FieldAt_stays hfill.out hlt (Nat.le_refl _) hb1 hcl1 (by rw [hX'.out]; exact ht1'.out)
        simp only [putCells] at hst
        exact hst
      case measure => simp [intOf]; omega
    · have e : j = xs.length := by omega
      subst e
      go_wp2_with fail
      go_ret
      exact ⟨⟨_, rfl, hfill.out.done FieldAt_stays (Nat.le_refl _) (by unfold maxLen; omega)⟩, hb⟩
set_option maxHeartbeats 1000000 in
theorem toObj_any {w : World} {lo : Nat} {cs : List Value} {x : ObjD} (hx : ObjAt w lo cs x) (hsm : x.small) :
    Calls Try.prog 65 #[.agg cs.toArray] w fun e w' => (∃ cs', e = .returned (.agg cs'.toArray) ∧ ObjAt w' w.heap.size cs' x) ∧ Below w.heap.size w w' := by
  obtain ⟨k2, rfl, s2, rId, rNode, _⟩ := hx
  obtain ⟨mFields, _⟩ := hsm
  have s2' : Hid (SeqAt 2 FieldAt w lo k2 x.vFields) := s2
  obtain ⟨a2, cap2, rfl⟩ := s2.form
  clear s2
  have mFields' : Hid (AllS FieldD.small x.vFields) := mFields
  clear mFields
  have hb : Below w.heap.size w (((w.alloc (.cells (List.toArray [.int .i64 x.vId, .int .i64 x.vNode, .slice a2 x.vFields.length cap2]) 121)).alloc (.cells (List.toArray [.int .i64 0, .int .i64 0, .slice none 0 0]) 73)).alloc (.cells (List.toArray [.int .i64 x.vId, .int .i64 x.vNode, .slice none 0 0]) 73)) := (((Below.refl _ _).alloc (Nat.le_refl _) _).alloc (by simp) _).alloc (by simp; omega) _
  have hz : (((w.alloc (.cells (List.toArray [.int .i64 x.vId, .int .i64 x.vNode, .slice a2 x.vFields.length cap2]) 121)).alloc (.cells (List.toArray [.int .i64 0, .int .i64 0, .slice none 0 0]) 73)).alloc (.cells (List.toArray [.int .i64 x.vId, .int .i64 x.vNode, .slice none 0 0]) 73)).heap.size = w.heap.size + 3 := by simp
  have bA : Hid (Box (((w.alloc (.cells (List.toArray [.int .i64 x.vId, .int .i64 x.vNode, .slice a2 x.vFields.length cap2]) 121)).alloc (.cells (List.toArray [.int .i64 0, .int .i64 0, .slice none 0 0]) 73)).alloc (.cells (List.toArray [.int .i64 x.vId, .int .i64 x.vNode, .slice none 0 0]) 73)) w.heap.size [.int .i64 x.vId, .int .i64 x.vNode, .slice a2 x.vFields.length cap2] 121) := ((Box.new w _ _).alloc _).alloc _
  have bR : Hid (Box (((w.alloc (.cells (List.toArray [.int .i64 x.vId, .int .i64 x.vNode, .slice a2 x.vFields.length cap2]) 121)).alloc (.cells (List.toArray [.int .i64 0, .int .i64 0, .slice none 0 0]) 73)).alloc (.cells (List.toArray [.int .i64 x.vId, .int .i64 x.vNode, .slice none 0 0]) 73)) (w.heap.size + 1) [.int .i64 0, .int .i64 0, .slice none 0 0] 73) := by have := (Box.new (w.alloc (.cells (List.toArray [.int .i64 x.vId, .int .i64 x.vNode, .slice a2 x.vFields.length cap2]) 121)) [.int .i64 0, .int .i64 0, .slice none 0 0] 73).alloc (.cells (List.toArray [.int .i64 x.vId, .int .i64 x.vNode, .slice none 0 0]) 73); simpa [Hid] using this
  have bO : Hid (Box (((w.alloc (.cells (List.toArray [.int .i64 x.vId, .int .i64 x.vNode, .slice a2 x.vFields.length cap2]) 121)).alloc (.cells (List.toArray [.int .i64 0, .int .i64 0, .slice none 0 0]) 73)).alloc (.cells (List.toArray [.int .i64 x.vId, .int .i64 x.vNode, .slice none 0 0]) 73)) (w.heap.size + 1 + 1) [.int .i64 x.vId, .int .i64 x.vNode, .slice none 0 0] 73) := by have := Box.new ((w.alloc (.cells (List.toArray [.int .i64 x.vId, .int .i64 x.vNode, .slice a2 x.vFields.length cap2]) 121)).alloc (.cells (List.toArray [.int .i64 0, .int .i64 0, .slice none 0 0]) 73)) [.int .i64 x.vId, .int .i64 x.vNode, .slice none 0 0] 73; simpa [Hid] using this
  go_enter Try.func65, Try.ntmps65
  go_wp2_with fail
  refine (toFieldS_any (s2'.out.below FieldAt_stays hb) mFields'.out).mono ?_
  rintro e u2 ⟨⟨kk2, rfl, ss2⟩, hbc⟩
  obtain ⟨aa2, cc2, rfl⟩ := ss2.form
  have hz2 : w.heap.size + 3 ≤ u2.heap.size := by have := hbc.size; omega
  replace hb := hb.trans (hbc.mono hb.size)
  have bA2 : Hid (Box u2 w.heap.size [.int .i64 x.vId, .int .i64 x.vNode, .slice a2 x.vFields.length cap2] 121) := bA.out.below hbc bA.out.lt
  have bR2 : Hid (Box u2 (w.heap.size + 1) [.int .i64 0, .int .i64 0, .slice none 0 0] 73) := bR.out.below hbc bR.out.lt
  have bO2 : Hid (Box u2 (w.heap.size + 1 + 1) [.int .i64 x.vId, .int .i64 x.vNode, .slice none 0 0] 73) := bO.out.below hbc bO.out.lt
  have ss2' : Hid (SeqAt 2 FieldAt u2 (w.heap.size + 3) (.slice aa2 x.vFields.length cc2) x.vFields) := ss2.keep FieldAt_stays (.lower (by omega))
  have tA2_0 := bA2.out.cell 0 rfl
  have tR2_0 := bR2.out.cell 0 rfl
  have tO2_0 := bO2.out.cell 0 rfl
  have tA2_1 := bA2.out.cell 1 rfl
  have tR2_1 := bR2.out.cell 1 rfl
  have tO2_1 := bO2.out.cell 1 rfl
  have tA2_2 := bA2.out.cell 2 rfl
  have tR2_2 := bR2.out.cell 2 rfl
  have tO2_2 := bO2.out.cell 2 rfl
  have fR2 := bR2.out.unfrozen
  have fO2 := bO2.out.unfrozen
  clear hbc ss2 bA bR bO hz
  have bA : Hid (Box (putCells u2 (w.heap.size + 1 + 1) 2 [.slice aa2 x.vFields.length cc2]) w.heap.size [.int .i64 x.vId, .int .i64 x.vNode, .slice a2 x.vFields.length cap2] 121) := (bA2.out.other (by omega) _)
  have bR : Hid (Box (putCells u2 (w.heap.size + 1 + 1) 2 [.slice aa2 x.vFields.length cc2]) (w.heap.size + 1) [.int .i64 0, .int .i64 0, .slice none 0 0] 73) := (bR2.out.other (by omega) _)
  have bO : Hid (Box (putCells u2 (w.heap.size + 1 + 1) 2 [.slice aa2 x.vFields.length cc2]) (w.heap.size + 1 + 1) [.int .i64 x.vId, .int .i64 x.vNode, .slice aa2 x.vFields.length cc2] 73) := (bO2.out.set _)
  have hz : (putCells u2 (w.heap.size + 1 + 1) 2 [.slice aa2 x.vFields.length cc2]).heap.size = u2.heap.size := putCells_size _ _ _ _
  replace hb : Below w.heap.size w (putCells u2 (w.heap.size + 1 + 1) 2 [.slice aa2 x.vFields.length cc2]) := putCells_below _ _ _ _ _ _ (by omega) hb
  have ss2n : Hid (SeqAt 2 FieldAt (putCells u2 (w.heap.size + 1 + 1) 2 [.slice aa2 x.vFields.length cc2]) (w.heap.size + 3) (.slice aa2 x.vFields.length cc2) x.vFields) := SeqAt.keep FieldAt_stays ss2'.out (kept_put (by omega))
  clear ss2'
  have ss2' := ss2n
  clear ss2n
  clear bA2 bR2 bO2
  go_wp2_with fail
  refine bodyPost_ret (v := .agg (List.toArray [.int .i64 x.vId, .int .i64 x.vNode, .slice aa2 x.vFields.length cc2])) (by simp [results, Try.results65, go_sem, tR2_0, tR2_1, tR2_2]) rfl ⟨⟨_, rfl, .slice aa2 x.vFields.length cc2, rfl, ?s2, rId, rNode, trivial⟩, ?bel⟩
  case s2 => exact SeqAt.keep FieldAt_stays (SeqAt.keep FieldAt_stays ss2'.out (kept_put (g := (w.heap.size + 1)) (o := 0) (vs := [.int .i64 x.vId, .int .i64 x.vNode, .slice aa2 x.vFields.length cc2]) (by omega))) (.lower (by omega))
  case bel => exact putCells_below [.int .i64 x.vId, .int .i64 x.vNode, .slice aa2 x.vFields.length cc2] _ _ _ (w.heap.size + 1) 0 (by omega) hb
theorem infoObj : ((Try.prog.info? 73).map fun i => (i.zero, i.bytes, i.size)) = some (some (.agg #[.int .i64 0, .int .i64 0, .slice none 0 0]), 40, 3) := by kernel_rfl
/-- the cells of n new ones -/
def newObj (n : Nat) : Array Value := madeCells #[.int .i64 0, .int .i64 0, .slice none 0 0] (n * 3)
theorem newObj_size (n : Nat) : (newObj n).size = n * 3 := size_madeCells _ _
theorem run_newObj (n : Nat) (h : n ≤ 1048576) (w : World) : Sem.run Try.prog (Instr.makeSlice 40 (.int .i64 (n : Int)) (.int .i64 (n : Int))) w = .ok (.slice (some ⟨w.heap.size, 0, none⟩) n n) (w.alloc (.cells (newObj n) 73)) := by
  obtain ⟨i, hi, he⟩ := Option.map_eq_some_iff.1 infoObj
  simp only [Prod.mk.injEq] at he
  have := run_make (P := Try.prog) w 40 73 i _ Try.underlying40 hi he.1 .i64 .i64 (n : Int) (n : Int) (by omega) (Int.le_refl _) (by rw [he.2.1]; omega) (by omega)
  rw [he.2.2] at this
  simpa [newObj, Value.cells] using this
set_option maxHeartbeats 1000000 in
theorem toObjS_any {w : World} {lo : Nat} {k : Value} {xs : List ObjD} (hk : SeqAt 3 ObjAt w lo k xs) (hsm : AllS ObjD.small xs) :
    Calls Try.prog 48 #[k] w fun e w' => (∃ k', e = .returned k' ∧ SeqAt 3 ObjAt w' w.heap.size k' xs) ∧ Below w.heap.size w w' := by
  obtain ⟨a, cap, rfl, hm, hx⟩ := hk
  unfold maxLen at hm
  have hx' : Hid _ := hx
  have hsm' : Hid (AllS ObjD.small xs) := hsm
  have hl := hsm.1
  clear hx hsm
  have hmk := run_newObj xs.length hl w
  go_enter Try.func48, Try.ntmps48
  go_wp2_with fail
  go_loopw [4] (fun i wr => ∃ (j : Nat), j ≤ xs.length ∧ i = .int .i64 j ∧ Hid (Filled 73 3 ObjAt w wr xs w.heap.size j)) (fun i _ => xs.length - (intOf i).toNat)
  case atStart => exact ⟨0, by omega, rfl, Filled.start (newObj_size _)⟩
  case round =>
    obtain ⟨j, hj, rfl, hfill⟩ := hrel
    have hb := hfill.out.1
    by_cases hlt : j < xs.length
    · obtain ⟨b, off, rfl, hlo, hbw, hc⟩ := hx'.out (by omega)
      obtain ⟨cs, hcl, lie, hr⟩ := hc j hlt
      have lie1 := Lie.keep (lo := lo) (lo' := lo) lie (.of_below hb) hlo hbw
      have hr2 := ObjAt_stays _ _ _ lo _ _ (.of_below hb) hr
      have hsj : Hid (ObjD.small xs[j]) := hsm'.out.2 j hlt
      generalize hX : xs[j] = X at hr2 hsj
      have hX' : Hid _ := hX
      have hr3 : Hid (ObjAt wr lo cs X) := hr2
      clear hX hr lie hc
      obtain ⟨k2, rfl, s2, rId, rNode, _⟩ := hr2
      clear s2 rId rNode
      have z0 := lie1 0 (by simp)
      have z1 := lie1 1 (by simp)
      have z2 := lie1 2 (by simp)
      simp only [List.getElem?_cons_zero, List.getElem?_cons_succ, Nat.add_zero] at z0 z1 z2
      clear lie1 hcl hx' hmk
      go_wp2_with fail
      refine (toObj_any hr3.out hsj.out).mono ?_
      rintro e w1 ⟨⟨cs1, rfl, ht1⟩, hb1⟩
      have hcl1 : cs1.length = 3 := by obtain ⟨_, rfl, _⟩ := ht1; rfl
      have ht1' : Hid (ObjAt w1 wr.heap.size cs1 X) := ht1
      obtain ⟨g2, rfl, t2, rId, rNode, _⟩ := ht1
      obtain ⟨b2, d2, rfl⟩ := t2.form
      clear t2 rId rNode z0 z1 z2
      obtain ⟨hv, hf⟩ := hfill.out.facts hlt hb1
      obtain ⟨v0, y0⟩ := hv 0 (by omega)
      have f0 := hf (j * 3 + 0)
      obtain ⟨v1, y1⟩ := hv 1 (by omega)
      have f1 := hf (j * 3 + 1)
      obtain ⟨v2, y2⟩ := hv 2 (by omega)
      have f2 := hf (j * 3 + 2)
      simp only [Nat.add_zero] at y0 f0
      clear hv hf
      go_wp2_with fail
      go_roundw
      case rel =>
        refine ⟨j + 1, by omega, by go_num, ?_⟩
        have hst := Filled.step ObjAt_stays hfill.out hlt (Nat.le_refl _) hb1 hcl1 (by rw [hX'.out]; exact ht1'.out)
        simp only [putCells, Nat.add_assoc, Nat.reduceAdd] at hst
        exact hst
      case measure => simp [intOf]; omega
    · have e : j = xs.length := by omega
      subst e
      go_wp2_with fail
      go_ret
      exact ⟨⟨_, rfl, hfill.out.done ObjAt_stays (Nat.le_refl _) (by unfold maxLen; omega)⟩, hb⟩
set_option maxHeartbeats 1000000 in
theorem toHeap_any {w : World} {lo : Nat} {cs : List Value} {x : HeapD} (hx : HeapAt w lo cs x) (hsm : x.small) :
    Calls Try.prog 30 #[.agg cs.toArray] w fun e w' => (∃ cs', e = .returned (.agg cs'.toArray) ∧ HeapAt w' w.heap.size cs' x) ∧ Below w.heap.size w w' := by
  obtain ⟨k2, k3, k4, rfl, s2, s3, s4, rNext, rDoc, _⟩ := hx
  obtain ⟨mNodes, mObjs, mGlobals, _⟩ := hsm
  have s2' : Hid (SeqAt 6 NodeAt w lo k2 x.vNodes) := s2
  obtain ⟨a2, cap2, rfl⟩ := s2.form
  clear s2
  have mNodes' : Hid (AllS NodeD.small x.vNodes) := mNodes
  clear mNodes
  have s3' : Hid (SeqAt 3 ObjAt w lo k3 x.vObjs) := s3
  obtain ⟨a3, cap3, rfl⟩ := s3.form
  clear s3
  have mObjs' : Hid (AllS ObjD.small x.vObjs) := mObjs
  clear mObjs
  have s4' : Hid (SeqAt 2 FieldAt w lo k4 x.vGlobals) := s4
  obtain ⟨a4, cap4, rfl⟩ := s4.form
  clear s4
  have mGlobals' : Hid (AllS FieldD.small x.vGlobals) := mGlobals
  clear mGlobals
  have hb : Below w.heap.size w (((w.alloc (.cells (List.toArray [.int .i64 x.vNext, .int .i64 x.vDoc, .slice a2 x.vNodes.length cap2, .slice a3 x.vObjs.length cap3, .slice a4 x.vGlobals.length cap4]) 62)).alloc (.cells (List.toArray [.int .i64 0, .int .i64 0, .slice none 0 0, .slice none 0 0, .slice none 0 0]) 43)).alloc (.cells (List.toArray [.int .i64 x.vNext, .int .i64 x.vDoc, .slice none 0 0, .slice none 0 0, .slice none 0 0]) 43)) := (((Below.refl _ _).alloc (Nat.le_refl _) _).alloc (by simp) _).alloc (by simp; omega) _
  have hz : (((w.alloc (.cells (List.toArray [.int .i64 x.vNext, .int .i64 x.vDoc, .slice a2 x.vNodes.length cap2, .slice a3 x.vObjs.length cap3, .slice a4 x.vGlobals.length cap4]) 62)).alloc (.cells (List.toArray [.int .i64 0, .int .i64 0, .slice none 0 0, .slice none 0 0, .slice none 0 0]) 43)).alloc (.cells (List.toArray [.int .i64 x.vNext, .int .i64 x.vDoc, .slice none 0 0, .slice none 0 0, .slice none 0 0]) 43)).heap.size = w.heap.size + 3 := by simp
  have bA : Hid (Box (((w.alloc (.cells (List.toArray [.int .i64 x.vNext, .int .i64 x.vDoc, .slice a2 x.vNodes.length cap2, .slice a3 x.vObjs.length cap3, .slice a4 x.vGlobals.length cap4]) 62)).alloc (.cells (List.toArray [.int .i64 0, .int .i64 0, .slice none 0 0, .slice none 0 0, .slice none 0 0]) 43)).alloc (.cells (List.toArray [.int .i64 x.vNext, .int .i64 x.vDoc, .slice none 0 0, .slice none 0 0, .slice none 0 0]) 43)) w.heap.size [.int .i64 x.vNext, .int .i64 x.vDoc, .slice a2 x.vNodes.length cap2, .slice a3 x.vObjs.length cap3, .slice a4 x.vGlobals.length cap4] 62) := ((Box.new w _ _).alloc _).alloc _
  have bR : Hid (Box (((w.alloc (.cells (List.toArray [.int .i64 x.vNext, .int .i64 x.vDoc, .slice a2 x.vNodes.length cap2, .slice a3 x.vObjs.length cap3, .slice a4 x.vGlobals.length cap4]) 62)).alloc (.cells (List.toArray [.int .i64 0, .int .i64 0, .slice none 0 0, .slice none 0 0, .slice none 0 0]) 43)).alloc (.cells (List.toArray [.int .i64 x.vNext, .int .i64 x.vDoc, .slice none 0 0, .slice none 0 0, .slice none 0 0]) 43)) (w.heap.size + 1) [.int .i64 0, .int .i64 0, .slice none 0 0, .slice none 0 0, .slice none 0 0] 43) := by have := (Box.new (w.alloc (.cells (List.toArray [.int .i64 x.vNext, .int .i64 x.vDoc, .slice a2 x.vNodes.length cap2, .slice a3 x.vObjs.length cap3, .slice a4 x.vGlobals.length cap4]) 62)) [.int .i64 0, .int .i64 0, .slice none 0 0, .slice none 0 0, .slice none 0 0] 43).alloc (.cells (List.toArray [.int .i64 x.vNext, .int .i64 x.vDoc, .slice none 0 0, .slice none 0 0, .slice none 0 0]) 43); simpa [Hid] using this
  have bO : Hid (Box (((w.alloc (.cells (List.toArray [.int .i64 x.vNext, .int .i64 x.vDoc, .slice a2 x.vNodes.length cap2, .slice a3 x.vObjs.length cap3, .slice a4 x.vGlobals.length cap4]) 62)).alloc (.cells (List.toArray [.int .i64 0, .int .i64 0, .slice none 0 0, .slice none 0 0, .slice none 0 0]) 43)).alloc (.cells (List.toArray [.int .i64 x.vNext, .int .i64 x.vDoc, .slice none 0 0, .slice none 0 0, .slice none 0 0]) 43)) (w.heap.size + 1 + 1) [.int .i64 x.vNext, .int .i64 x.vDoc, .slice none 0 0, .slice none 0 0, .slice none 0 0] 43) := by have := Box.new ((w.alloc (.cells (List.toArray [.int .i64 x.vNext, .int .i64 x.vDoc, .slice a2 x.vNodes.length cap2, .slice a3 x.vObjs.length cap3, .slice a4 x.vGlobals.length cap4]) 62)).alloc (.cells (List.toArray [.int .i64 0, .int .i64 0, .slice none 0 0, .slice none 0 0, .slice none 0 0]) 43)) [.int .i64 x.vNext, .int .i64 x.vDoc, .slice none 0 0, .slice none 0 0, .slice none 0 0] 43; simpa [Hid] using this
  go_enter Try.func30, Try.ntmps30
  go_wp2_with fail
  refine (toNodeS_any (s2'.out.below NodeAt_stays hb) mNodes'.out).mono ?_
  rintro e u2 ⟨⟨kk2, rfl, ss2⟩, hbc⟩
  obtain ⟨aa2, cc2, rfl⟩ := ss2.form
  have hz2 : w.heap.size + 3 ≤ u2.heap.size := by have := hbc.size; omega
  replace hb := hb.trans (hbc.mono hb.size)
  have bA2 : Hid (Box u2 w.heap.size [.int .i64 x.vNext, .int .i64 x.vDoc, .slice a2 x.vNodes.length cap2, .slice a3 x.vObjs.length cap3, .slice a4 x.vGlobals.length cap4] 62) := bA.out.below hbc bA.out.lt
  have bR2 : Hid (Box u2 (w.heap.size + 1) [.int .i64 0, .int .i64 0, .slice none 0 0, .slice none 0 0, .slice none 0 0] 43) := bR.out.below hbc bR.out.lt
  have bO2 : Hid (Box u2 (w.heap.size + 1 + 1) [.int .i64 x.vNext, .int .i64 x.vDoc, .slice none 0 0, .slice none 0 0, .slice none 0 0] 43) := bO.out.below hbc bO.out.lt
  have ss2' : Hid (SeqAt 6 NodeAt u2 (w.heap.size + 3) (.slice aa2 x.vNodes.length cc2) x.vNodes) := ss2.keep NodeAt_stays (.lower (by omega))
  have tA2_0 := bA2.out.cell 0 rfl
  have tR2_0 := bR2.out.cell 0 rfl
  have tO2_0 := bO2.out.cell 0 rfl
  have tA2_1 := bA2.out.cell 1 rfl
  have tR2_1 := bR2.out.cell 1 rfl
  have tO2_1 := bO2.out.cell 1 rfl
  have tA2_2 := bA2.out.cell 2 rfl
  have tR2_2 := bR2.out.cell 2 rfl
  have tO2_2 := bO2.out.cell 2 rfl
  have tA2_3 := bA2.out.cell 3 rfl
  have tR2_3 := bR2.out.cell 3 rfl
  have tO2_3 := bO2.out.cell 3 rfl
  have tA2_4 := bA2.out.cell 4 rfl
  have tR2_4 := bR2.out.cell 4 rfl
  have tO2_4 := bO2.out.cell 4 rfl
  have fR2 := bR2.out.unfrozen
  have fO2 := bO2.out.unfrozen
  clear hbc ss2 bA bR bO hz
  have bA : Hid (Box (putCells u2 (w.heap.size + 1 + 1) 2 [.slice aa2 x.vNodes.length cc2]) w.heap.size [.int .i64 x.vNext, .int .i64 x.vDoc, .slice a2 x.vNodes.length cap2, .slice a3 x.vObjs.length cap3, .slice a4 x.vGlobals.length cap4] 62) := (bA2.out.other (by omega) _)
  have bR : Hid (Box (putCells u2 (w.heap.size + 1 + 1) 2 [.slice aa2 x.vNodes.length cc2]) (w.heap.size + 1) [.int .i64 0, .int .i64 0, .slice none 0 0, .slice none 0 0, .slice none 0 0] 43) := (bR2.out.other (by omega) _)
  have bO : Hid (Box (putCells u2 (w.heap.size + 1 + 1) 2 [.slice aa2 x.vNodes.length cc2]) (w.heap.size + 1 + 1) [.int .i64 x.vNext, .int .i64 x.vDoc, .slice aa2 x.vNodes.length cc2, .slice none 0 0, .slice none 0 0] 43) := (bO2.out.set _)
  have hz : (putCells u2 (w.heap.size + 1 + 1) 2 [.slice aa2 x.vNodes.length cc2]).heap.size = u2.heap.size := putCells_size _ _ _ _
  replace hb : Below w.heap.size w (putCells u2 (w.heap.size + 1 + 1) 2 [.slice aa2 x.vNodes.length cc2]) := putCells_below _ _ _ _ _ _ (by omega) hb
  have ss2n : Hid (SeqAt 6 NodeAt (putCells u2 (w.heap.size + 1 + 1) 2 [.slice aa2 x.vNodes.length cc2]) (w.heap.size + 3) (.slice aa2 x.vNodes.length cc2) x.vNodes) := SeqAt.keep NodeAt_stays ss2'.out (kept_put (by omega))
  clear ss2'
  have ss2' := ss2n
  clear ss2n
  clear bA2 bR2 bO2
  go_wp2_with fail
  refine (toObjS_any (s3'.out.below ObjAt_stays hb) mObjs'.out).mono ?_
  rintro e u3 ⟨⟨kk3, rfl, ss3⟩, hbc⟩
  obtain ⟨aa3, cc3, rfl⟩ := ss3.form
  have hz3 : w.heap.size + 3 ≤ u3.heap.size := by have := hbc.size; omega
  replace hb := hb.trans (hbc.mono hb.size)
  have bA3 : Hid (Box u3 w.heap.size [.int .i64 x.vNext, .int .i64 x.vDoc, .slice a2 x.vNodes.length cap2, .slice a3 x.vObjs.length cap3, .slice a4 x.vGlobals.length cap4] 62) := bA.out.below hbc bA.out.lt
  have bR3 : Hid (Box u3 (w.heap.size + 1) [.int .i64 0, .int .i64 0, .slice none 0 0, .slice none 0 0, .slice none 0 0] 43) := bR.out.below hbc bR.out.lt
  have bO3 : Hid (Box u3 (w.heap.size + 1 + 1) [.int .i64 x.vNext, .int .i64 x.vDoc, .slice aa2 x.vNodes.length cc2, .slice none 0 0, .slice none 0 0] 43) := bO.out.below hbc bO.out.lt
  have ss2n : Hid (SeqAt 6 NodeAt u3 (w.heap.size + 3) (.slice aa2 x.vNodes.length cc2) x.vNodes) := SeqAt.below NodeAt_stays ss2'.out hbc
  clear ss2'
  have ss2' := ss2n
  clear ss2n
  have ss3' : Hid (SeqAt 3 ObjAt u3 (w.heap.size + 3) (.slice aa3 x.vObjs.length cc3) x.vObjs) := ss3.keep ObjAt_stays (.lower (by omega))
  clear tA2_0 tR2_0 tO2_0 tA2_1 tR2_1 tO2_1 tA2_2 tR2_2 tO2_2 tA2_3 tR2_3 tO2_3 tA2_4 tR2_4 tO2_4 fR2 fO2
  have tA3_0 := bA3.out.cell 0 rfl
  have tR3_0 := bR3.out.cell 0 rfl
  have tO3_0 := bO3.out.cell 0 rfl
  have tA3_1 := bA3.out.cell 1 rfl
  have tR3_1 := bR3.out.cell 1 rfl
  have tO3_1 := bO3.out.cell 1 rfl
  have tA3_2 := bA3.out.cell 2 rfl
  have tR3_2 := bR3.out.cell 2 rfl
  have tO3_2 := bO3.out.cell 2 rfl
  have tA3_3 := bA3.out.cell 3 rfl
  have tR3_3 := bR3.out.cell 3 rfl
  have tO3_3 := bO3.out.cell 3 rfl
  have tA3_4 := bA3.out.cell 4 rfl
  have tR3_4 := bR3.out.cell 4 rfl
  have tO3_4 := bO3.out.cell 4 rfl
  have fR3 := bR3.out.unfrozen
  have fO3 := bO3.out.unfrozen
  clear hbc ss3 bA bR bO hz
  have bA : Hid (Box (putCells u3 (w.heap.size + 1 + 1) 3 [.slice aa3 x.vObjs.length cc3]) w.heap.size [.int .i64 x.vNext, .int .i64 x.vDoc, .slice a2 x.vNodes.length cap2, .slice a3 x.vObjs.length cap3, .slice a4 x.vGlobals.length cap4] 62) := (bA3.out.other (by omega) _)
  have bR : Hid (Box (putCells u3 (w.heap.size + 1 + 1) 3 [.slice aa3 x.vObjs.length cc3]) (w.heap.size + 1) [.int .i64 0, .int .i64 0, .slice none 0 0, .slice none 0 0, .slice none 0 0] 43) := (bR3.out.other (by omega) _)
  have bO : Hid (Box (putCells u3 (w.heap.size + 1 + 1) 3 [.slice aa3 x.vObjs.length cc3]) (w.heap.size + 1 + 1) [.int .i64 x.vNext, .int .i64 x.vDoc, .slice aa2 x.vNodes.length cc2, .slice aa3 x.vObjs.length cc3, .slice none 0 0] 43) := (bO3.out.set _)
  have hz : (putCells u3 (w.heap.size + 1 + 1) 3 [.slice aa3 x.vObjs.length cc3]).heap.size = u3.heap.size := putCells_size _ _ _ _
  replace hb : Below w.heap.size w (putCells u3 (w.heap.size + 1 + 1) 3 [.slice aa3 x.vObjs.length cc3]) := putCells_below _ _ _ _ _ _ (by omega) hb
  have ss2n : Hid (SeqAt 6 NodeAt (putCells u3 (w.heap.size + 1 + 1) 3 [.slice aa3 x.vObjs.length cc3]) (w.heap.size + 3) (.slice aa2 x.vNodes.length cc2) x.vNodes) := SeqAt.keep NodeAt_stays ss2'.out (kept_put (by omega))
  clear ss2'
  have ss2' := ss2n
  clear ss2n
  have ss3n : Hid (SeqAt 3 ObjAt (putCells u3 (w.heap.size + 1 + 1) 3 [.slice aa3 x.vObjs.length cc3]) (w.heap.size + 3) (.slice aa3 x.vObjs.length cc3) x.vObjs) := SeqAt.keep ObjAt_stays ss3'.out (kept_put (by omega))
  clear ss3'
  have ss3' := ss3n
  clear ss3n
  clear bA3 bR3 bO3
  go_wp2_with fail
  refine (toFieldS_any (s4'.out.below FieldAt_stays hb) mGlobals'.out).mono ?_
  rintro e u4 ⟨⟨kk4, rfl, ss4⟩, hbc⟩
  obtain ⟨aa4, cc4, rfl⟩ := ss4.form
  have hz4 : w.heap.size + 3 ≤ u4.heap.size := by have := hbc.size; omega
  replace hb := hb.trans (hbc.mono hb.size)
  have bA4 : Hid (Box u4 w.heap.size [.int .i64 x.vNext, .int .i64 x.vDoc, .slice a2 x.vNodes.length cap2, .slice a3 x.vObjs.length cap3, .slice a4 x.vGlobals.length cap4] 62) := bA.out.below hbc bA.out.lt
  have bR4 : Hid (Box u4 (w.heap.size + 1) [.int .i64 0, .int .i64 0, .slice none 0 0, .slice none 0 0, .slice none 0 0] 43) := bR.out.below hbc bR.out.lt
  have bO4 : Hid (Box u4 (w.heap.size + 1 + 1) [.int .i64 x.vNext, .int .i64 x.vDoc, .slice aa2 x.vNodes.length cc2, .slice aa3 x.vObjs.length cc3, .slice none 0 0] 43) := bO.out.below hbc bO.out.lt
  have ss2n : Hid (SeqAt 6 NodeAt u4 (w.heap.size + 3) (.slice aa2 x.vNodes.length cc2) x.vNodes) := SeqAt.below NodeAt_stays ss2'.out hbc
  clear ss2'
  have ss2' := ss2n
  clear ss2n
  have ss3n : Hid (SeqAt 3 ObjAt u4 (w.heap.size + 3) (.slice aa3 x.vObjs.length cc3) x.vObjs) := SeqAt.below ObjAt_stays ss3'.out hbc
  clear ss3'
  have ss3' := ss3n
  clear ss3n
  have ss4' : Hid (SeqAt 2 FieldAt u4 (w.heap.size + 3) (.slice aa4 x.vGlobals.length cc4) x.vGlobals) := ss4.keep FieldAt_stays (.lower (by omega))
  clear tA3_0 tR3_0 tO3_0 tA3_1 tR3_1 tO3_1 tA3_2 tR3_2 tO3_2 tA3_3 tR3_3 tO3_3 tA3_4 tR3_4 tO3_4 fR3 fO3
  have tA4_0 := bA4.out.cell 0 rfl
  have tR4_0 := bR4.out.cell 0 rfl
  have tO4_0 := bO4.out.cell 0 rfl
  have tA4_1 := bA4.out.cell 1 rfl
  have tR4_1 := bR4.out.cell 1 rfl
  have tO4_1 := bO4.out.cell 1 rfl
  have tA4_2 := bA4.out.cell 2 rfl
  have tR4_2 := bR4.out.cell 2 rfl
  have tO4_2 := bO4.out.cell 2 rfl
  have tA4_3 := bA4.out.cell 3 rfl
  have tR4_3 := bR4.out.cell 3 rfl
  have tO4_3 := bO4.out.cell 3 rfl
  have tA4_4 := bA4.out.cell 4 rfl
  have tR4_4 := bR4.out.cell 4 rfl
  have tO4_4 := bO4.out.cell 4 rfl
  have fR4 := bR4.out.unfrozen
  have fO4 := bO4.out.unfrozen
  clear hbc ss4 bA bR bO hz
  have bA : Hid (Box (putCells u4 (w.heap.size + 1 + 1) 4 [.slice aa4 x.vGlobals.length cc4]) w.heap.size [.int .i64 x.vNext, .int .i64 x.vDoc, .slice a2 x.vNodes.length cap2, .slice a3 x.vObjs.length cap3, .slice a4 x.vGlobals.length cap4] 62) := (bA4.out.other (by omega) _)
  have bR : Hid (Box (putCells u4 (w.heap.size + 1 + 1) 4 [.slice aa4 x.vGlobals.length cc4]) (w.heap.size + 1) [.int .i64 0, .int .i64 0, .slice none 0 0, .slice none 0 0, .slice none 0 0] 43) := (bR4.out.other (by omega) _)
  have bO : Hid (Box (putCells u4 (w.heap.size + 1 + 1) 4 [.slice aa4 x.vGlobals.length cc4]) (w.heap.size + 1 + 1) [.int .i64 x.vNext, .int .i64 x.vDoc, .slice aa2 x.vNodes.length cc2, .slice aa3 x.vObjs.length cc3, .slice aa4 x.vGlobals.length cc4] 43) := (bO4.out.set _)
  have hz : (putCells u4 (w.heap.size + 1 + 1) 4 [.slice aa4 x.vGlobals.length cc4]).heap.size = u4.heap.size := putCells_size _ _ _ _
  replace hb : Below w.heap.size w (putCells u4 (w.heap.size + 1 + 1) 4 [.slice aa4 x.vGlobals.length cc4]) := putCells_below _ _ _ _ _ _ (by omega) hb
  have ss2n : Hid (SeqAt 6 NodeAt (putCells u4 (w.heap.size + 1 + 1) 4 [.slice aa4 x.vGlobals.length cc4]) (w.heap.size + 3) (.slice aa2 x.vNodes.length cc2) x.vNodes) := SeqAt.keep NodeAt_stays ss2'.out (kept_put (by omega))
  clear ss2'
  have ss2' := ss2n
  clear ss2n
  have ss3n : Hid (SeqAt 3 ObjAt (putCells u4 (w.heap.size + 1 + 1) 4 [.slice aa4 x.vGlobals.length cc4]) (w.heap.size + 3) (.slice aa3 x.vObjs.length cc3) x.vObjs) := SeqAt.keep ObjAt_stays ss3'.out (kept_put (by omega))
  clear ss3'
  have ss3' := ss3n
  clear ss3n
  have ss4n : Hid (SeqAt 2 FieldAt (putCells u4 (w.heap.size + 1 + 1) 4 [.slice aa4 x.vGlobals.length cc4]) (w.heap.size + 3) (.slice aa4 x.vGlobals.length cc4) x.vGlobals) := SeqAt.keep FieldAt_stays ss4'.out (kept_put (by omega))
  clear ss4'
  have ss4' := ss4n
  clear ss4n
  clear bA4 bR4 bO4
  go_wp2_with fail
  refine bodyPost_ret (v := .agg (List.toArray [.int .i64 x.vNext, .int .i64 x.vDoc, .slice aa2 x.vNodes.length cc2, .slice aa3 x.vObjs.length cc3, .slice aa4 x.vGlobals.length cc4])) (by simp [results, Try.results30, go_sem, tR4_0, tR4_1, tR4_2, tR4_3, tR4_4]) rfl ⟨⟨_, rfl, .slice aa2 x.vNodes.length cc2, .slice aa3 x.vObjs.length cc3, .slice aa4 x.vGlobals.length cc4, rfl, ?s2, ?s3, ?s4, rNext, rDoc, trivial⟩, ?bel⟩
  case s2 => exact SeqAt.keep NodeAt_stays (SeqAt.keep NodeAt_stays ss2'.out (kept_put (g := (w.heap.size + 1)) (o := 0) (vs := [.int .i64 x.vNext, .int .i64 x.vDoc, .slice aa2 x.vNodes.length cc2, .slice aa3 x.vObjs.length cc3, .slice aa4 x.vGlobals.length cc4]) (by omega))) (.lower (by omega))
  case s3 => exact SeqAt.keep ObjAt_stays (SeqAt.keep ObjAt_stays ss3'.out (kept_put (g := (w.heap.size + 1)) (o := 0) (vs := [.int .i64 x.vNext, .int .i64 x.vDoc, .slice aa2 x.vNodes.length cc2, .slice aa3 x.vObjs.length cc3, .slice aa4 x.vGlobals.length cc4]) (by omega))) (.lower (by omega))
  case s4 => exact SeqAt.keep FieldAt_stays (SeqAt.keep FieldAt_stays ss4'.out (kept_put (g := (w.heap.size + 1)) (o := 0) (vs := [.int .i64 x.vNext, .int .i64 x.vDoc, .slice aa2 x.vNodes.length cc2, .slice aa3 x.vObjs.length cc3, .slice aa4 x.vGlobals.length cc4]) (by omega))) (.lower (by omega))
  case bel => exact putCells_below [.int .i64 x.vNext, .int .i64 x.vDoc, .slice aa2 x.vNodes.length cc2, .slice aa3 x.vObjs.length cc3, .slice aa4 x.vGlobals.length cc4] _ _ _ (w.heap.size + 1) 0 (by omega) hb
theorem infoHeap : ((Try.prog.info? 43).map fun i => (i.zero, i.bytes, i.size)) = some (some (.agg #[.int .i64 0, .int .i64 0, .slice none 0 0, .slice none 0 0, .slice none 0 0]), 88, 5) := by kernel_rfl
/-- the cells of n new ones -/
def newHeap (n : Nat) : Array Value := madeCells #[.int .i64 0, .int .i64 0, .slice none 0 0, .slice none 0 0, .slice none 0 0] (n * 5)
theorem newHeap_size (n : Nat) : (newHeap n).size = n * 5 := size_madeCells _ _
theorem run_newHeap (n : Nat) (h : n ≤ 1048576) (w : World) : Sem.run Try.prog (Instr.makeSlice 28 (.int .i64 (n : Int)) (.int .i64 (n : Int))) w = .ok (.slice (some ⟨w.heap.size, 0, none⟩) n n) (w.alloc (.cells (newHeap n) 43)) := by
  obtain ⟨i, hi, he⟩ := Option.map_eq_some_iff.1 infoHeap
  simp only [Prod.mk.injEq] at he
  have := run_make (P := Try.prog) w 28 43 i _ Try.underlying28 hi he.1 .i64 .i64 (n : Int) (n : Int) (by omega) (Int.le_refl _) (by rw [he.2.1]; omega) (by omega)
  rw [he.2.2] at this
  simpa [newHeap, Value.cells] using this
set_option maxHeartbeats 1000000 in
theorem toHeapS_any {w : World} {lo : Nat} {k : Value} {xs : List HeapD} (hk : SeqAt 5 HeapAt w lo k xs) (hsm : AllS HeapD.small xs) :
    Calls Try.prog 14 #[k] w fun e w' => (∃ k', e = .returned k' ∧ SeqAt 5 HeapAt w' w.heap.size k' xs) ∧ Below w.heap.size w w' := by
  obtain ⟨a, cap, rfl, hm, hx⟩ := hk
  unfold maxLen at hm
  have hx' : Hid _ := hx
  have hsm' : Hid (AllS HeapD.small xs) := hsm
  have hl := hsm.1
  clear hx hsm
  have hmk := run_newHeap xs.length hl w
  go_enter Try.func14, Try.ntmps14
  go_wp2_with fail
  go_loopw [4] (fun i wr => ∃ (j : Nat), j ≤ xs.length ∧ i = .int .i64 j ∧ Hid (Filled 43 5 HeapAt w wr xs w.heap.size j)) (fun i _ => xs.length - (intOf i).toNat)
  case atStart => exact ⟨0, by omega, rfl, Filled.start (newHeap_size _)⟩
  case round =>
    obtain ⟨j, hj, rfl, hfill⟩ := hrel
    have hb := hfill.out.1
    by_cases hlt : j < xs.length
    · obtain ⟨b, off, rfl, hlo, hbw, hc⟩ := hx'.out (by omega)
      obtain ⟨cs, hcl, lie, hr⟩ := hc j hlt
      have lie1 := Lie.keep (lo := lo) (lo' := lo) lie (.of_below hb) hlo hbw
      have hr2 := HeapAt_stays _ _ _ lo _ _ (.of_below hb) hr
      have hsj : Hid (HeapD.small xs[j]) := hsm'.out.2 j hlt
      generalize hX : xs[j] = X at hr2 hsj
      have hX' : Hid _ := hX
      have hr3 : Hid (HeapAt wr lo cs X) := hr2
      clear hX hr lie hc
      obtain ⟨k2, k3, k4, rfl, s2, s3, s4, rNext, rDoc, _⟩ := hr2
      clear s2 s3 s4 rNext rDoc
      have z0 := lie1 0 (by simp)
      have z1 := lie1 1 (by simp)
      have z2 := lie1 2 (by simp)
      have z3 := lie1 3 (by simp)
      have z4 := lie1 4 (by simp)
      simp only [List.getElem?_cons_zero, List.getElem?_cons_succ, Nat.add_zero] at z0 z1 z2 z3 z4
      clear lie1 hcl hx' hmk
      go_wp2_with fail
      refine (toHeap_any hr3.out hsj.out).mono ?_
      rintro e w1 ⟨⟨cs1, rfl, ht1⟩, hb1⟩
      have hcl1 : cs1.length = 5 := by obtain ⟨_, _, _, rfl, _⟩ := ht1; rfl
      have ht1' : Hid (HeapAt w1 wr.heap.size cs1 X) := ht1
      obtain ⟨g2, g3, g4, rfl, t2, t3, t4, rNext, rDoc, _⟩ := ht1
      obtain ⟨b2, d2, rfl⟩ := t2.form
      obtain ⟨b3, d3, rfl⟩ := t3.form
      obtain ⟨b4, d4, rfl⟩ := t4.form
      clear t2 t3 t4 rNext rDoc z0 z1 z2 z3 z4
      obtain ⟨hv, hf⟩ := hfill.out.facts hlt hb1
      obtain ⟨v0, y0⟩ := hv 0 (by omega)
      have f0 := hf (j * 5 + 0)
      obtain ⟨v1, y1⟩ := hv 1 (by omega)
      have f1 := hf (j * 5 + 1)
      obtain ⟨v2, y2⟩ := hv 2 (by omega)
      have f2 := hf (j * 5 + 2)
      obtain ⟨v3, y3⟩ := hv 3 (by omega)
      have f3 := hf (j * 5 + 3)
      obtain ⟨v4, y4⟩ := hv 4 (by omega)
      have f4 := hf (j * 5 + 4)
      simp only [Nat.add_zero] at y0 f0
      clear hv hf
      go_wp2_with fail
      go_roundw
      case rel =>
        refine ⟨j + 1, by omega, by go_num, ?_⟩
        have hst := Filled.step HeapAt_stays hfill.out hlt (Nat.le_refl _) hb1 hcl1 (by rw [hX'.out]; exact ht1'.out)
        simp only [putCells, Nat.add_assoc, Nat.reduceAdd] at hst
        exact hst
      case measure => simp [intOf]; omega
    · have e : j = xs.length := by omega
      subst e
      go_wp2_with fail
      go_ret
      exact ⟨⟨_, rfl, hfill.out.done HeapAt_stays (Nat.le_refl _) (by unfold maxLen; omega)⟩, hb⟩
end Go.Proofs.Ytbodeijffpepfaa
