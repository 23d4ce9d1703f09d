/- What the functions to.. of the laws hand back: a copy in new memory. -/
import Derived.Test.YtnonfehmbabfhaaGreatRecs
import Derived.WalkKit
import Derived.Test.YtnonfehmbabfhaaGreatOwnRows
import Derived.Test.YtnonfehmbabfhaaGreatCntPlain
namespace Go.Proofs.YtnonfehmbabfhaaGreat
open Go.RowKit
theorem infoInt64 : ((Tryz.prog.info? 2).map fun i => (i.zero, i.bytes, i.size)) = some (some (.int .i64 0), 8, 1) := by kernel_rfl
/-- the cells of n new ones -/
def newInt64 (n : Nat) : Array Value := madeCells #[.int .i64 0] (n * 1)
theorem newInt64_size (n : Nat) : (newInt64 n).size = n * 1 := size_madeCells _ _
theorem run_newInt64 (n : Nat) (h : n ≤ 1048576) (w : World) : Sem.run Tryz.prog (Instr.makeSlice 33 (.int .i64 (n : Int)) (.int .i64 (n : Int))) w = .ok (.slice (some ⟨w.heap.size, 0, none⟩) n n) (w.alloc (.cells (newInt64 n) 2)) := by
  obtain ⟨i, hi, he⟩ := Option.map_eq_some_iff.1 infoInt64
  simp only [Prod.mk.injEq] at he
  have := run_make (P := Tryz.prog) w 33 2 i _ Tryz.underlying33 hi he.1 .i64 .i64 (n : Int) (n : Int) (by omega) (Int.le_refl _) (by rw [he.2.1]; omega) (by omega)
  rw [he.2.2] at this
  simpa [newInt64, Value.cells] using this
theorem infoListener : ((Tryz.prog.info? 127).map fun i => (i.zero, i.bytes, i.size)) = some (some (.agg #[.string ByteArray.empty, .bool false, .bool false, .int .i64 0, .string ByteArray.empty]), 48, 5) := by kernel_rfl
/-- the cells of n new ones -/
def newListener (n : Nat) : Array Value := madeCells #[.string ByteArray.empty, .bool false, .bool false, .int .i64 0, .string ByteArray.empty] (n * 5)
theorem newListener_size (n : Nat) : (newListener n).size = n * 5 := size_madeCells _ _
theorem run_newListener (n : Nat) (h : n ≤ 1048576) (w : World) : Sem.run Tryz.prog (Instr.makeSlice 89 (.int .i64 (n : Int)) (.int .i64 (n : Int))) w = .ok (.slice (some ⟨w.heap.size, 0, none⟩) n n) (w.alloc (.cells (newListener n) 127)) := by
  obtain ⟨i, hi, he⟩ := Option.map_eq_some_iff.1 infoListener
  simp only [Prod.mk.injEq] at he
  have := run_make (P := Tryz.prog) w 89 127 i _ Tryz.underlying89 hi he.1 .i64 .i64 (n : Int) (n : Int) (by omega) (Int.le_refl _) (by rw [he.2.1]; omega) (by omega)
  rw [he.2.2] at this
  simpa [newListener, Value.cells] using this
theorem infoNode : ((Tryz.prog.info? 91).map fun i => (i.zero, i.bytes, i.size)) = some (some (.agg #[.int .i64 0, .string ByteArray.empty, .int .i64 0, .slice none 0 0, .int .i64 0, .slice none 0 0]), 88, 6) := by kernel_rfl
/-- the cells of n new ones -/
def newNode (n : Nat) : Array Value := madeCells #[.int .i64 0, .string ByteArray.empty, .int .i64 0, .slice none 0 0, .int .i64 0, .slice none 0 0] (n * 6)
theorem newNode_size (n : Nat) : (newNode n).size = n * 6 := size_madeCells _ _
theorem run_newNode (n : Nat) (h : n ≤ 1048576) (w : World) : Sem.run Tryz.prog (Instr.makeSlice 28 (.int .i64 (n : Int)) (.int .i64 (n : Int))) w = .ok (.slice (some ⟨w.heap.size, 0, none⟩) n n) (w.alloc (.cells (newNode n) 91)) := by
  obtain ⟨i, hi, he⟩ := Option.map_eq_some_iff.1 infoNode
  simp only [Prod.mk.injEq] at he
  have := run_make (P := Tryz.prog) w 28 91 i _ Tryz.underlying28 hi he.1 .i64 .i64 (n : Int) (n : Int) (by omega) (Int.le_refl _) (by rw [he.2.1]; omega) (by omega)
  rw [he.2.2] at this
  simpa [newNode, Value.cells] using this
theorem infoField : ((Tryz.prog.info? 102).map fun i => (i.zero, i.bytes, i.size)) = some (some (.agg #[.string ByteArray.empty, .int .i64 0]), 24, 2) := by kernel_rfl
/-- the cells of n new ones -/
def newField (n : Nat) : Array Value := madeCells #[.string ByteArray.empty, .int .i64 0] (n * 2)
theorem newField_size (n : Nat) : (newField n).size = n * 2 := size_madeCells _ _
theorem run_newField (n : Nat) (h : n ≤ 1048576) (w : World) : Sem.run Tryz.prog (Instr.makeSlice 30 (.int .i64 (n : Int)) (.int .i64 (n : Int))) w = .ok (.slice (some ⟨w.heap.size, 0, none⟩) n n) (w.alloc (.cells (newField n) 102)) := by
  obtain ⟨i, hi, he⟩ := Option.map_eq_some_iff.1 infoField
  simp only [Prod.mk.injEq] at he
  have := run_make (P := Tryz.prog) w 30 102 i _ Tryz.underlying30 hi he.1 .i64 .i64 (n : Int) (n : Int) (by omega) (Int.le_refl _) (by rw [he.2.1]; omega) (by omega)
  rw [he.2.2] at this
  simpa [newField, Value.cells] using this
theorem infoObj : ((Tryz.prog.info? 95).map fun i => (i.zero, i.bytes, i.size)) = some (some (.agg #[.int .i64 0, .int .i64 0, .slice none 0 0]), 40, 3) := by kernel_rfl
/-- the cells of n new ones -/
def newObj (n : Nat) : Array Value := madeCells #[.int .i64 0, .int .i64 0, .slice none 0 0] (n * 3)
theorem newObj_size (n : Nat) : (newObj n).size = n * 3 := size_madeCells _ _
theorem run_newObj (n : Nat) (h : n ≤ 1048576) (w : World) : Sem.run Tryz.prog (Instr.makeSlice 29 (.int .i64 (n : Int)) (.int .i64 (n : Int))) w = .ok (.slice (some ⟨w.heap.size, 0, none⟩) n n) (w.alloc (.cells (newObj n) 95)) := by
  obtain ⟨i, hi, he⟩ := Option.map_eq_some_iff.1 infoObj
  simp only [Prod.mk.injEq] at he
  have := run_make (P := Tryz.prog) w 29 95 i _ Tryz.underlying29 hi he.1 .i64 .i64 (n : Int) (n : Int) (by omega) (Int.le_refl _) (by rw [he.2.1]; omega) (by omega)
  rw [he.2.2] at this
  simpa [newObj, Value.cells] using this
end Go.Proofs.YtnonfehmbabfhaaGreat
namespace Go.Proofs.YtnonfehmbabfhaaGreat
open Go.RowKit
set_option maxHeartbeats 800000 in
theorem toInt64S_own {w : World} {lo : Nat} {k : Value} {xs : List Int} (hk : SeqAt 1 IntAt w lo k xs) (hl : xs.length ≤ 1048576) :
    Calls Tryz.prog 16 #[k] w fun e w' => (∃ k' fs, e = .returned k' ∧ SeqOwn 1 IntOwn w' k' xs fs ∧ fs.Nodup ∧ ∀ b ∈ fs, w.heap.size ≤ b) ∧ Below w.heap.size w w' := by
  obtain ⟨a, cap, rfl, hm, hx⟩ := hk
  unfold maxLen at hm
  have hx' : Hid _ := hx
  clear hx
  have hmk := run_newInt64 xs.length hl w
  go_enter Tryz.func16, Tryz.ntmps16
  go_wp2_with fail
  go_loopw [4] (fun i wr => ∃ (j : Nat) (bss : List (List Nat)), j ≤ xs.length ∧ i = .int .i64 j ∧ Hid (FilledO 2 1 IntOwn w wr xs w.heap.size j bss)) (fun i _ => xs.length - (intOf i).toNat)
  case atStart => exact ⟨0, [], by omega, rfl, FilledO.start (newInt64_size _)⟩
  case round =>
    obtain ⟨j, bss, hj, rfl, hfill⟩ := hrel
    have hb := hfill.out.1
    by_cases hlt : j < xs.length
    · obtain ⟨b, off, rfl, hlo, hbw, hc⟩ := hx'.out (by omega)
      obtain ⟨cs, hcl, lie, hr⟩ := hc j hlt
      have lie1 := Lie.keep (lo := lo) (lo' := lo) lie (.of_below hb) hlo hbw
      have hr' : Hid (IntOwn wr cs xs[j] []) := ⟨hr.1, hr.2, rfl⟩
      generalize hX : xs[j] = X at hr
      have hX' : Hid _ := hX
      clear hX
      obtain ⟨rfl, hI⟩ := hr
      have z0 := lie1 0 (by simp)
      simp only [List.getElem?_cons_zero, Nat.add_zero, Nat.mul_one] at z0
      obtain ⟨hv, hf⟩ := hfill.out.facts hlt (Below.refl _ _)
      obtain ⟨v0, y0⟩ := hv 0 (by omega)
      simp only [Nat.add_zero, Nat.mul_one] at y0
      have f0 := hf j
      clear hv hf lie lie1 hx' hmk hc
      go_wp2_with fail
      go_roundw
      case rel =>
        refine ⟨j + 1, bss ++ [[]], by omega, by go_num, ?_⟩
        have := FilledO.step intOwn_stays hfill.out hlt (Nat.le_refl _) (Below.refl _ _) hcl hr'.out (by simp) (by simp) (by simp)
        simpa [putCells, Hid] using this
      case measure => simp [intOf]; omega
    · have e : j = xs.length := by omega
      subst e
      go_wp2_with fail
      go_ret
      obtain ⟨d1, d2⟩ := hfill.out.done (Nat.le_refl _) (by unfold maxLen; omega)
      exact ⟨⟨_, _, rfl, d1, d1.nodup, d2⟩, hb⟩
set_option maxHeartbeats 1000000 in
theorem toListener_own {w : World} {lo : Nat} {cs : List Value} {x : ListenerD} (hx : ListenerAt w lo cs x) :
    Calls Tryz.prog 107 #[.agg cs.toArray] w fun e w' => (∃ cs' fs, e = .returned (.agg cs'.toArray) ∧ ListenerOwn w' cs' x fs ∧ fs.Nodup ∧ ∀ b ∈ fs, w.heap.size ≤ b) ∧ Below w.heap.size w w' := by
  obtain ⟨rfl, rType, rStop, rName, _⟩ := hx
  go_enter Tryz.func107, Tryz.ntmps107
  go_wp2_with fail
  exact bodyPost_ret (v := .agg #[.string x.vType, .bool x.vCapture, .bool x.vOnce, .int .i64 x.vStop, .string x.vName]) (by simp [results, Tryz.results107, go_sem]) rfl ⟨⟨_, [], rfl, ⟨rfl, rType, rStop, rName, rfl⟩, List.nodup_nil, by simp⟩, (((Below.refl _ _).alloc (Nat.le_refl _) _).alloc (by simp) _).alloc (by simp; omega) _⟩
set_option maxHeartbeats 1000000 in
theorem toListenerS_own {w : World} {lo : Nat} {k : Value} {xs : List ListenerD} (hk : SeqAt 5 ListenerAt w lo k xs) (hsm : AllS ListenerD.small xs) :
    Calls Tryz.prog 91 #[k] w fun e w' => (∃ k' fs, e = .returned k' ∧ SeqOwn 5 ListenerOwn w' k' xs fs ∧ fs.Nodup ∧ ∀ b ∈ fs, w.heap.size ≤ b) ∧ Below w.heap.size w w' := by
  obtain ⟨a, cap, rfl, hm, hx⟩ := hk
  unfold maxLen at hm
  have hx' : Hid _ := hx
  have hsm' : Hid (AllS ListenerD.small xs) := hsm
  have hl := hsm.1
  clear hx hsm
  have hmk := run_newListener xs.length hl w
  go_enter Tryz.func91, Tryz.ntmps91
  go_wp2_with fail
  go_loopw [4] (fun i wr => ∃ (j : Nat) (bss : List (List Nat)), j ≤ xs.length ∧ i = .int .i64 j ∧ Hid (FilledO 127 5 ListenerOwn w wr xs w.heap.size j bss)) (fun i _ => xs.length - (intOf i).toNat)
  case atStart => exact ⟨0, [], by omega, rfl, FilledO.start (newListener_size _)⟩
  case round =>
    obtain ⟨j, bss, hj, rfl, hfill⟩ := hrel
    have hb := hfill.out.1
    by_cases hlt : j < xs.length
    · obtain ⟨b, off, rfl, hlo, hbw, hc⟩ := hx'.out (by omega)
      obtain ⟨cs, hcl, lie, hr⟩ := hc j hlt
      have lie1 := Lie.keep (lo := lo) (lo' := lo) lie (.of_below hb) hlo hbw
      have hr2 := ListenerAt_stays _ _ _ lo _ _ (.of_below hb) hr
      have hsj : Hid (ListenerD.small xs[j]) := hsm'.out.2 j hlt
      generalize hX : xs[j] = X at hr2 hsj
      have hX' : Hid _ := hX
      have hr3 : Hid (ListenerAt wr lo cs X) := hr2
      clear hX hr lie hc
      obtain ⟨rfl, rType, rStop, rName, _⟩ := hr2
      clear rType rStop rName
      have z0 := lie1 0 (by simp)
      have z1 := lie1 1 (by simp)
      have z2 := lie1 2 (by simp)
      have z3 := lie1 3 (by simp)
      have z4 := lie1 4 (by simp)
      simp only [List.getElem?_cons_zero, List.getElem?_cons_succ, Nat.add_zero] at z0 z1 z2 z3 z4
      clear lie1 hcl hx' hmk
      go_wp2_with fail
      refine (toListener_own hr3.out).mono ?_
      rintro e w1 ⟨⟨cs1, fs1, rfl, ht1, nd1, lo1⟩, hb1⟩
      have hcl1 : cs1.length = 5 := by obtain ⟨rfl, _⟩ := ht1; rfl
      have ht1' : Hid (ListenerOwn w1 cs1 X fs1) := ht1
      have hi1 : Hid (∀ b ∈ fs1, b < w1.heap.size) := ListenerOwn_lt _ _ _ _ ht1
      obtain ⟨rfl, rType, rStop, rName, rfl⟩ := ht1
      clear rType rStop rName z0 z1 z2 z3 z4
      obtain ⟨hv, hf⟩ := hfill.out.facts hlt hb1
      obtain ⟨v0, y0⟩ := hv 0 (by omega)
      have f0 := hf (j * 5 + 0)
      obtain ⟨v1, y1⟩ := hv 1 (by omega)
      have f1 := hf (j * 5 + 1)
      obtain ⟨v2, y2⟩ := hv 2 (by omega)
      have f2 := hf (j * 5 + 2)
      obtain ⟨v3, y3⟩ := hv 3 (by omega)
      have f3 := hf (j * 5 + 3)
      obtain ⟨v4, y4⟩ := hv 4 (by omega)
      have f4 := hf (j * 5 + 4)
      simp only [Nat.add_zero] at y0 f0
      clear hv hf
      go_wp2_with fail
      go_roundw
      case rel =>
        refine ⟨j + 1, bss ++ [[]], by omega, by go_num, ?_⟩
        have hst := FilledO.step ListenerOwn_stays hfill.out hlt (Nat.le_refl _) hb1 hcl1 (by rw [hX'.out]; exact ht1'.out) (by simp) (by simp) (by simp)
        simp only [putCells, Nat.add_assoc, Nat.reduceAdd] at hst
        exact hst
      case measure => simp [intOf]; omega
    · have e : j = xs.length := by omega
      subst e
      go_wp2_with fail
      go_ret
      obtain ⟨d1, d2⟩ := hfill.out.done (Nat.le_refl _) (by unfold maxLen; omega)
      exact ⟨⟨_, _, rfl, d1, d1.nodup, d2⟩, hb⟩
set_option maxHeartbeats 1000000 in
theorem toNode_own {w : World} {lo : Nat} {cs : List Value} {x : NodeD} (hx : NodeAt w lo cs x) (hsm : x.small) :
    Calls Tryz.prog 59 #[.agg cs.toArray] w fun e w' => (∃ cs' fs, e = .returned (.agg cs'.toArray) ∧ NodeOwn w' cs' x fs ∧ fs.Nodup ∧ ∀ b ∈ fs, w.heap.size ≤ b) ∧ Below w.heap.size w w' := by
  obtain ⟨k3, k5, rfl, s3, s5, rId, rTag, rParent, rWrapper, _⟩ := hx
  obtain ⟨_, mKids, mListeners, _⟩ := hsm
  have s3' : Hid (SeqAt 1 IntAt w lo k3 x.vKids) := s3
  obtain ⟨a3, cap3, rfl⟩ := s3.form
  clear s3
  have mKids' : Hid (x.vKids.length ≤ 1048576) := mKids
  clear mKids
  have s5' : Hid (SeqAt 5 ListenerAt w lo k5 x.vListeners) := s5
  obtain ⟨a5, cap5, rfl⟩ := s5.form
  clear s5
  have mListeners' : Hid (AllS ListenerD.small x.vListeners) := mListeners
  clear mListeners
  have hb : Below w.heap.size w (((w.alloc (.cells #[.int .i64 x.vId, .string x.vTag, .int .i64 x.vParent, .slice a3 x.vKids.length cap3, .int .i64 x.vWrapper, .slice a5 x.vListeners.length cap5] 80)).alloc (.cells #[.int .i64 0, .string ⟨#[]⟩, .int .i64 0, .slice none 0 0, .int .i64 0, .slice none 0 0] 91)).alloc (.cells #[.int .i64 x.vId, .string x.vTag, .int .i64 x.vParent, .slice none 0 0, .int .i64 0, .slice none 0 0] 91)) := (((Below.refl _ _).alloc (Nat.le_refl _) _).alloc (by simp) _).alloc (by simp; omega) _
  have hz : (((w.alloc (.cells #[.int .i64 x.vId, .string x.vTag, .int .i64 x.vParent, .slice a3 x.vKids.length cap3, .int .i64 x.vWrapper, .slice a5 x.vListeners.length cap5] 80)).alloc (.cells #[.int .i64 0, .string ⟨#[]⟩, .int .i64 0, .slice none 0 0, .int .i64 0, .slice none 0 0] 91)).alloc (.cells #[.int .i64 x.vId, .string x.vTag, .int .i64 x.vParent, .slice none 0 0, .int .i64 0, .slice none 0 0] 91)).heap.size = w.heap.size + 3 := by simp
  have bA : Hid (Box (((w.alloc (.cells #[.int .i64 x.vId, .string x.vTag, .int .i64 x.vParent, .slice a3 x.vKids.length cap3, .int .i64 x.vWrapper, .slice a5 x.vListeners.length cap5] 80)).alloc (.cells #[.int .i64 0, .string ⟨#[]⟩, .int .i64 0, .slice none 0 0, .int .i64 0, .slice none 0 0] 91)).alloc (.cells #[.int .i64 x.vId, .string x.vTag, .int .i64 x.vParent, .slice none 0 0, .int .i64 0, .slice none 0 0] 91)) w.heap.size [.int .i64 x.vId, .string x.vTag, .int .i64 x.vParent, .slice a3 x.vKids.length cap3, .int .i64 x.vWrapper, .slice a5 x.vListeners.length cap5] 80) := ((Box.new w _ _).alloc _).alloc _
  have bR : Hid (Box (((w.alloc (.cells #[.int .i64 x.vId, .string x.vTag, .int .i64 x.vParent, .slice a3 x.vKids.length cap3, .int .i64 x.vWrapper, .slice a5 x.vListeners.length cap5] 80)).alloc (.cells #[.int .i64 0, .string ⟨#[]⟩, .int .i64 0, .slice none 0 0, .int .i64 0, .slice none 0 0] 91)).alloc (.cells #[.int .i64 x.vId, .string x.vTag, .int .i64 x.vParent, .slice none 0 0, .int .i64 0, .slice none 0 0] 91)) (w.heap.size + 1) [.int .i64 0, .string ⟨#[]⟩, .int .i64 0, .slice none 0 0, .int .i64 0, .slice none 0 0] 91) := by have := (Box.new (w.alloc (.cells #[.int .i64 x.vId, .string x.vTag, .int .i64 x.vParent, .slice a3 x.vKids.length cap3, .int .i64 x.vWrapper, .slice a5 x.vListeners.length cap5] 80)) [.int .i64 0, .string ⟨#[]⟩, .int .i64 0, .slice none 0 0, .int .i64 0, .slice none 0 0] 91).alloc (.cells #[.int .i64 x.vId, .string x.vTag, .int .i64 x.vParent, .slice none 0 0, .int .i64 0, .slice none 0 0] 91); simpa [Hid] using this
  have bO : Hid (Box (((w.alloc (.cells #[.int .i64 x.vId, .string x.vTag, .int .i64 x.vParent, .slice a3 x.vKids.length cap3, .int .i64 x.vWrapper, .slice a5 x.vListeners.length cap5] 80)).alloc (.cells #[.int .i64 0, .string ⟨#[]⟩, .int .i64 0, .slice none 0 0, .int .i64 0, .slice none 0 0] 91)).alloc (.cells #[.int .i64 x.vId, .string x.vTag, .int .i64 x.vParent, .slice none 0 0, .int .i64 0, .slice none 0 0] 91)) (w.heap.size + 1 + 1) [.int .i64 x.vId, .string x.vTag, .int .i64 x.vParent, .slice none 0 0, .int .i64 0, .slice none 0 0] 91) := by have := Box.new ((w.alloc (.cells #[.int .i64 x.vId, .string x.vTag, .int .i64 x.vParent, .slice a3 x.vKids.length cap3, .int .i64 x.vWrapper, .slice a5 x.vListeners.length cap5] 80)).alloc (.cells #[.int .i64 0, .string ⟨#[]⟩, .int .i64 0, .slice none 0 0, .int .i64 0, .slice none 0 0] 91)) [.int .i64 x.vId, .string x.vTag, .int .i64 x.vParent, .slice none 0 0, .int .i64 0, .slice none 0 0] 91; simpa [Hid] using this
  go_enter Tryz.func59, Tryz.ntmps59
  go_wp2_with fail
  refine (toInt64S_own (s3'.out.below intAt_stays hb) mKids'.out).mono ?_
  rintro e u3 ⟨⟨kk3, fs3, rfl, ss3, nd3, lo3⟩, hbc⟩
  obtain ⟨aa3, cc3, rfl⟩ := ss3.form
  have hz3 : w.heap.size + 3 ≤ u3.heap.size := by have := hbc.size; omega
  have hi3 : Hid (∀ b ∈ fs3, b < u3.heap.size) := ss3.lt intOwn_lt
  have lw3 : Hid (∀ b ∈ fs3, w.heap.size + 3 ≤ b) := fun b q => by have := lo3 b q; omega
  replace hb := hb.trans (hbc.mono hb.size)
  have bA3 : Hid (Box u3 w.heap.size [.int .i64 x.vId, .string x.vTag, .int .i64 x.vParent, .slice a3 x.vKids.length cap3, .int .i64 x.vWrapper, .slice a5 x.vListeners.length cap5] 80) := bA.out.below hbc bA.out.lt
  have bR3 : Hid (Box u3 (w.heap.size + 1) [.int .i64 0, .string ⟨#[]⟩, .int .i64 0, .slice none 0 0, .int .i64 0, .slice none 0 0] 91) := bR.out.below hbc bR.out.lt
  have bO3 : Hid (Box u3 (w.heap.size + 1 + 1) [.int .i64 x.vId, .string x.vTag, .int .i64 x.vParent, .slice none 0 0, .int .i64 0, .slice none 0 0] 91) := bO.out.below hbc bO.out.lt
  have ss3' : Hid (SeqOwn 1 IntOwn u3 (.slice aa3 x.vKids.length cc3) x.vKids fs3) := ss3
  have tA3_0 := bA3.out.cell 0 rfl
  have tR3_0 := bR3.out.cell 0 rfl
  have tO3_0 := bO3.out.cell 0 rfl
  have tA3_1 := bA3.out.cell 1 rfl
  have tR3_1 := bR3.out.cell 1 rfl
  have tO3_1 := bO3.out.cell 1 rfl
  have tA3_2 := bA3.out.cell 2 rfl
  have tR3_2 := bR3.out.cell 2 rfl
  have tO3_2 := bO3.out.cell 2 rfl
  have tA3_3 := bA3.out.cell 3 rfl
  have tR3_3 := bR3.out.cell 3 rfl
  have tO3_3 := bO3.out.cell 3 rfl
  have tA3_4 := bA3.out.cell 4 rfl
  have tR3_4 := bR3.out.cell 4 rfl
  have tO3_4 := bO3.out.cell 4 rfl
  have tA3_5 := bA3.out.cell 5 rfl
  have tR3_5 := bR3.out.cell 5 rfl
  have tO3_5 := bO3.out.cell 5 rfl
  have fR3 := bR3.out.unfrozen
  have fO3 := bO3.out.unfrozen
  clear hbc ss3 bA bR bO hz
  have bA : Hid (Box (putCells u3 (w.heap.size + 1 + 1) 3 [.slice aa3 x.vKids.length cc3, .int .i64 x.vWrapper]) w.heap.size [.int .i64 x.vId, .string x.vTag, .int .i64 x.vParent, .slice a3 x.vKids.length cap3, .int .i64 x.vWrapper, .slice a5 x.vListeners.length cap5] 80) := ((bA3.out.other (by omega) _).other (by omega) _)
  have bR : Hid (Box (putCells u3 (w.heap.size + 1 + 1) 3 [.slice aa3 x.vKids.length cc3, .int .i64 x.vWrapper]) (w.heap.size + 1) [.int .i64 0, .string ⟨#[]⟩, .int .i64 0, .slice none 0 0, .int .i64 0, .slice none 0 0] 91) := ((bR3.out.other (by omega) _).other (by omega) _)
  have bO : Hid (Box (putCells u3 (w.heap.size + 1 + 1) 3 [.slice aa3 x.vKids.length cc3, .int .i64 x.vWrapper]) (w.heap.size + 1 + 1) [.int .i64 x.vId, .string x.vTag, .int .i64 x.vParent, .slice aa3 x.vKids.length cc3, .int .i64 x.vWrapper, .slice none 0 0] 91) := ((bO3.out.set _).set _)
  have hz : (putCells u3 (w.heap.size + 1 + 1) 3 [.slice aa3 x.vKids.length cc3, .int .i64 x.vWrapper]).heap.size = u3.heap.size := putCells_size _ _ _ _
  replace hb : Below w.heap.size w (putCells u3 (w.heap.size + 1 + 1) 3 [.slice aa3 x.vKids.length cc3, .int .i64 x.vWrapper]) := putCells_below _ _ _ _ _ _ (by omega) hb
  have ss3n : Hid (SeqOwn 1 IntOwn (putCells u3 (w.heap.size + 1 + 1) 3 [.slice aa3 x.vKids.length cc3, .int .i64 x.vWrapper]) (.slice aa3 x.vKids.length cc3) x.vKids fs3) := SeqOwn.put intOwn_stays ss3'.out (fun b q => by have := lw3.out b q; omega)
  clear ss3'
  have ss3' := ss3n
  clear ss3n
  clear bA3 bR3 bO3
  go_wp2_with fail
  refine (toListenerS_own (s5'.out.below ListenerAt_stays hb) mListeners'.out).mono ?_
  rintro e u5 ⟨⟨kk5, fs5, rfl, ss5, nd5, lo5⟩, hbc⟩
  obtain ⟨aa5, cc5, rfl⟩ := ss5.form
  have hz5 : w.heap.size + 3 ≤ u5.heap.size := by have := hbc.size; omega
  have hi5 : Hid (∀ b ∈ fs5, b < u5.heap.size) := ss5.lt ListenerOwn_lt
  have lw5 : Hid (∀ b ∈ fs5, w.heap.size + 3 ≤ b) := fun b q => by have := lo5 b q; omega
  have lp5 : Hid (∀ b ∈ fs5, u3.heap.size ≤ b) := fun b q => by have := lo5 b q; omega
  have mz5 : Hid (u3.heap.size ≤ u5.heap.size) := by show _ ≤ _; have := hbc.size; omega
  replace hb := hb.trans (hbc.mono hb.size)
  have bA5 : Hid (Box u5 w.heap.size [.int .i64 x.vId, .string x.vTag, .int .i64 x.vParent, .slice a3 x.vKids.length cap3, .int .i64 x.vWrapper, .slice a5 x.vListeners.length cap5] 80) := bA.out.below hbc bA.out.lt
  have bR5 : Hid (Box u5 (w.heap.size + 1) [.int .i64 0, .string ⟨#[]⟩, .int .i64 0, .slice none 0 0, .int .i64 0, .slice none 0 0] 91) := bR.out.below hbc bR.out.lt
  have bO5 : Hid (Box u5 (w.heap.size + 1 + 1) [.int .i64 x.vId, .string x.vTag, .int .i64 x.vParent, .slice aa3 x.vKids.length cc3, .int .i64 x.vWrapper, .slice none 0 0] 91) := bO.out.below hbc bO.out.lt
  have ss3n : Hid (SeqOwn 1 IntOwn u5 (.slice aa3 x.vKids.length cc3) x.vKids fs3) := SeqOwn.below intOwn_stays intOwn_lt ss3'.out hbc
  clear ss3'
  have ss3' := ss3n
  clear ss3n
  have ss5' : Hid (SeqOwn 5 ListenerOwn u5 (.slice aa5 x.vListeners.length cc5) x.vListeners fs5) := ss5
  clear tA3_0 tR3_0 tO3_0 tA3_1 tR3_1 tO3_1 tA3_2 tR3_2 tO3_2 tA3_3 tR3_3 tO3_3 tA3_4 tR3_4 tO3_4 tA3_5 tR3_5 tO3_5 fR3 fO3
  have tA5_0 := bA5.out.cell 0 rfl
  have tR5_0 := bR5.out.cell 0 rfl
  have tO5_0 := bO5.out.cell 0 rfl
  have tA5_1 := bA5.out.cell 1 rfl
  have tR5_1 := bR5.out.cell 1 rfl
  have tO5_1 := bO5.out.cell 1 rfl
  have tA5_2 := bA5.out.cell 2 rfl
  have tR5_2 := bR5.out.cell 2 rfl
  have tO5_2 := bO5.out.cell 2 rfl
  have tA5_3 := bA5.out.cell 3 rfl
  have tR5_3 := bR5.out.cell 3 rfl
  have tO5_3 := bO5.out.cell 3 rfl
  have tA5_4 := bA5.out.cell 4 rfl
  have tR5_4 := bR5.out.cell 4 rfl
  have tO5_4 := bO5.out.cell 4 rfl
  have tA5_5 := bA5.out.cell 5 rfl
  have tR5_5 := bR5.out.cell 5 rfl
  have tO5_5 := bO5.out.cell 5 rfl
  have fR5 := bR5.out.unfrozen
  have fO5 := bO5.out.unfrozen
  clear hbc ss5 bA bR bO hz
  have bA : Hid (Box (putCells u5 (w.heap.size + 1 + 1) 5 [.slice aa5 x.vListeners.length cc5]) w.heap.size [.int .i64 x.vId, .string x.vTag, .int .i64 x.vParent, .slice a3 x.vKids.length cap3, .int .i64 x.vWrapper, .slice a5 x.vListeners.length cap5] 80) := (bA5.out.other (by omega) _)
  have bR : Hid (Box (putCells u5 (w.heap.size + 1 + 1) 5 [.slice aa5 x.vListeners.length cc5]) (w.heap.size + 1) [.int .i64 0, .string ⟨#[]⟩, .int .i64 0, .slice none 0 0, .int .i64 0, .slice none 0 0] 91) := (bR5.out.other (by omega) _)
  have bO : Hid (Box (putCells u5 (w.heap.size + 1 + 1) 5 [.slice aa5 x.vListeners.length cc5]) (w.heap.size + 1 + 1) [.int .i64 x.vId, .string x.vTag, .int .i64 x.vParent, .slice aa3 x.vKids.length cc3, .int .i64 x.vWrapper, .slice aa5 x.vListeners.length cc5] 91) := (bO5.out.set _)
  have hz : (putCells u5 (w.heap.size + 1 + 1) 5 [.slice aa5 x.vListeners.length cc5]).heap.size = u5.heap.size := putCells_size _ _ _ _
  replace hb : Below w.heap.size w (putCells u5 (w.heap.size + 1 + 1) 5 [.slice aa5 x.vListeners.length cc5]) := putCells_below _ _ _ _ _ _ (by omega) hb
  have ss3n : Hid (SeqOwn 1 IntOwn (putCells u5 (w.heap.size + 1 + 1) 5 [.slice aa5 x.vListeners.length cc5]) (.slice aa3 x.vKids.length cc3) x.vKids fs3) := SeqOwn.put intOwn_stays ss3'.out (fun b q => by have := lw3.out b q; omega)
  clear ss3'
  have ss3' := ss3n
  clear ss3n
  have ss5n : Hid (SeqOwn 5 ListenerOwn (putCells u5 (w.heap.size + 1 + 1) 5 [.slice aa5 x.vListeners.length cc5]) (.slice aa5 x.vListeners.length cc5) x.vListeners fs5) := SeqOwn.put ListenerOwn_stays ss5'.out (fun b q => by have := lw5.out b q; omega)
  clear ss5'
  have ss5' := ss5n
  clear ss5n
  clear bA5 bR5 bO5
  go_wp2_with fail
  refine bodyPost_ret (v := .agg #[.int .i64 x.vId, .string x.vTag, .int .i64 x.vParent, .slice aa3 x.vKids.length cc3, .int .i64 x.vWrapper, .slice aa5 x.vListeners.length cc5]) (by simp [results, Tryz.results59, go_sem, tR5_0, tR5_1, tR5_2, tR5_3, tR5_4, tR5_5]) rfl ⟨⟨_, fs3 ++ fs5, rfl, ⟨.slice aa3 x.vKids.length cc3, .slice aa5 x.vListeners.length cc5, fs3, fs5, rfl, ?s3, ?s5, rId, rTag, rParent, rWrapper, rfl⟩, ?nd, ?lo⟩, ?bel⟩
  case s3 => exact SeqOwn.put intOwn_stays ss3'.out (g := (w.heap.size + 1)) (o := 0) (vs := [.int .i64 x.vId, .string x.vTag, .int .i64 x.vParent, .slice aa3 x.vKids.length cc3, .int .i64 x.vWrapper, .slice aa5 x.vListeners.length cc5]) (fun b q => by have := lw3.out b q; omega)
  case s5 => exact SeqOwn.put ListenerOwn_stays ss5'.out (g := (w.heap.size + 1)) (o := 0) (vs := [.int .i64 x.vId, .string x.vTag, .int .i64 x.vParent, .slice aa3 x.vKids.length cc3, .int .i64 x.vWrapper, .slice aa5 x.vListeners.length cc5]) (fun b q => by have := lw5.out b q; omega)
  case nd => exact nodup_two nd3 nd5 hi3.out lp5.out
  case lo =>
    intro b q
    simp only [List.mem_append] at q
    rcases q with q | q
    · have := lw3.out b q; omega
    · have := lw5.out b q; omega
  case bel => exact putCells_below [.int .i64 x.vId, .string x.vTag, .int .i64 x.vParent, .slice aa3 x.vKids.length cc3, .int .i64 x.vWrapper, .slice aa5 x.vListeners.length cc5] _ _ _ (w.heap.size + 1) 0 (by omega) hb
set_option maxHeartbeats 1000000 in
theorem toNodeS_own {w : World} {lo : Nat} {k : Value} {xs : List NodeD} (hk : SeqAt 6 NodeAt w lo k xs) (hsm : AllS NodeD.small xs) :
    Calls Tryz.prog 24 #[k] w fun e w' => (∃ k' fs, e = .returned k' ∧ SeqOwn 6 NodeOwn w' k' xs fs ∧ fs.Nodup ∧ ∀ b ∈ fs, w.heap.size ≤ b) ∧ Below w.heap.size w w' := by
  obtain ⟨a, cap, rfl, hm, hx⟩ := hk
  unfold maxLen at hm
  have hx' : Hid _ := hx
  have hsm' : Hid (AllS NodeD.small xs) := hsm
  have hl := hsm.1
  clear hx hsm
  have hmk := run_newNode xs.length hl w
  go_enter Tryz.func24, Tryz.ntmps24
  go_wp2_with fail
  go_loopw [4] (fun i wr => ∃ (j : Nat) (bss : List (List Nat)), j ≤ xs.length ∧ i = .int .i64 j ∧ Hid (FilledO 91 6 NodeOwn w wr xs w.heap.size j bss)) (fun i _ => xs.length - (intOf i).toNat)
  case atStart => exact ⟨0, [], by omega, rfl, FilledO.start (newNode_size _)⟩
  case round =>
    obtain ⟨j, bss, hj, rfl, hfill⟩ := hrel
    have hb := hfill.out.1
    by_cases hlt : j < xs.length
    · obtain ⟨b, off, rfl, hlo, hbw, hc⟩ := hx'.out (by omega)
      obtain ⟨cs, hcl, lie, hr⟩ := hc j hlt
      have lie1 := Lie.keep (lo := lo) (lo' := lo) lie (.of_below hb) hlo hbw
      have hr2 := NodeAt_stays _ _ _ lo _ _ (.of_below hb) hr
      have hsj : Hid (NodeD.small xs[j]) := hsm'.out.2 j hlt
      generalize hX : xs[j] = X at hr2 hsj
      have hX' : Hid _ := hX
      have hr3 : Hid (NodeAt wr lo cs X) := hr2
      clear hX hr lie hc
      obtain ⟨k3, k5, rfl, s3, s5, rId, rTag, rParent, rWrapper, _⟩ := hr2
      clear s3 s5 rId rTag rParent rWrapper
      have z0 := lie1 0 (by simp)
      have z1 := lie1 1 (by simp)
      have z2 := lie1 2 (by simp)
      have z3 := lie1 3 (by simp)
      have z4 := lie1 4 (by simp)
      have z5 := lie1 5 (by simp)
      simp only [List.getElem?_cons_zero, List.getElem?_cons_succ, Nat.add_zero] at z0 z1 z2 z3 z4 z5
      clear lie1 hcl hx' hmk
      go_wp2_with fail
      refine (toNode_own hr3.out hsj.out).mono ?_
      rintro e w1 ⟨⟨cs1, fs1, rfl, ht1, nd1, lo1⟩, hb1⟩
      have hcl1 : cs1.length = 6 := by obtain ⟨_, _, _, _, rfl, _⟩ := ht1; rfl
      have ht1' : Hid (NodeOwn w1 cs1 X fs1) := ht1
      have hi1 : Hid (∀ b ∈ fs1, b < w1.heap.size) := NodeOwn_lt _ _ _ _ ht1
      obtain ⟨g3, g5, fp3, fp5, rfl, t3, t5, rId, rTag, rParent, rWrapper, _⟩ := ht1
      obtain ⟨b3, d3, rfl⟩ := t3.form
      obtain ⟨b5, d5, rfl⟩ := t5.form
      clear t3 t5 rId rTag rParent rWrapper z0 z1 z2 z3 z4 z5
      obtain ⟨hv, hf⟩ := hfill.out.facts hlt hb1
      obtain ⟨v0, y0⟩ := hv 0 (by omega)
      have f0 := hf (j * 6 + 0)
      obtain ⟨v1, y1⟩ := hv 1 (by omega)
      have f1 := hf (j * 6 + 1)
      obtain ⟨v2, y2⟩ := hv 2 (by omega)
      have f2 := hf (j * 6 + 2)
      obtain ⟨v3, y3⟩ := hv 3 (by omega)
      have f3 := hf (j * 6 + 3)
      obtain ⟨v4, y4⟩ := hv 4 (by omega)
      have f4 := hf (j * 6 + 4)
      obtain ⟨v5, y5⟩ := hv 5 (by omega)
      have f5 := hf (j * 6 + 5)
      simp only [Nat.add_zero] at y0 f0
      clear hv hf
      go_wp2_with fail
      go_roundw
      case rel =>
        refine ⟨j + 1, bss ++ [fs1], by omega, by go_num, ?_⟩
        have hst := FilledO.step NodeOwn_stays hfill.out hlt (Nat.le_refl _) hb1 hcl1 (by rw [hX'.out]; exact ht1'.out) lo1 hi1.out nd1
        simp only [putCells, Nat.add_assoc, Nat.reduceAdd] at hst
        exact hst
      case measure => simp [intOf]; omega
    · have e : j = xs.length := by omega
      subst e
      go_wp2_with fail
      go_ret
      obtain ⟨d1, d2⟩ := hfill.out.done (Nat.le_refl _) (by unfold maxLen; omega)
      exact ⟨⟨_, _, rfl, d1, d1.nodup, d2⟩, hb⟩
set_option maxHeartbeats 1000000 in
theorem toField_own {w : World} {lo : Nat} {cs : List Value} {x : FieldD} (hx : FieldAt w lo cs x) :
    Calls Tryz.prog 61 #[.agg cs.toArray] w fun e w' => (∃ cs' fs, e = .returned (.agg cs'.toArray) ∧ FieldOwn w' cs' x fs ∧ fs.Nodup ∧ ∀ b ∈ fs, w.heap.size ≤ b) ∧ Below w.heap.size w w' := by
  obtain ⟨rfl, rName, rObj, _⟩ := hx
  go_enter Tryz.func61, Tryz.ntmps61
  go_wp2_with fail
  exact bodyPost_ret (v := .agg #[.string x.vName, .int .i64 x.vObj]) (by simp [results, Tryz.results61, go_sem]) rfl ⟨⟨_, [], rfl, ⟨rfl, rName, rObj, rfl⟩, List.nodup_nil, by simp⟩, (((Below.refl _ _).alloc (Nat.le_refl _) _).alloc (by simp) _).alloc (by simp; omega) _⟩
set_option maxHeartbeats 1000000 in
theorem toFieldS_own {w : World} {lo : Nat} {k : Value} {xs : List FieldD} (hk : SeqAt 2 FieldAt w lo k xs) (hsm : AllS FieldD.small xs) :
    Calls Tryz.prog 26 #[k] w fun e w' => (∃ k' fs, e = .returned k' ∧ SeqOwn 2 FieldOwn w' k' xs fs ∧ fs.Nodup ∧ ∀ b ∈ fs, w.heap.size ≤ b) ∧ Below w.heap.size w w' := by
  obtain ⟨a, cap, rfl, hm, hx⟩ := hk
  unfold maxLen at hm
  have hx' : Hid _ := hx
  have hsm' : Hid (AllS FieldD.small xs) := hsm
  have hl := hsm.1
  clear hx hsm
  have hmk := run_newField xs.length hl w
  go_enter Tryz.func26, Tryz.ntmps26
  go_wp2_with fail
  go_loopw [4] (fun i wr => ∃ (j : Nat) (bss : List (List Nat)), j ≤ xs.length ∧ i = .int .i64 j ∧ Hid (FilledO 102 2 FieldOwn w wr xs w.heap.size j bss)) (fun i _ => xs.length - (intOf i).toNat)
  case atStart => exact ⟨0, [], by omega, rfl, FilledO.start (newField_size _)⟩
  case round =>
    obtain ⟨j, bss, hj, rfl, hfill⟩ := hrel
    have hb := hfill.out.1
    by_cases hlt : j < xs.length
    · obtain ⟨b, off, rfl, hlo, hbw, hc⟩ := hx'.out (by omega)
      obtain ⟨cs, hcl, lie, hr⟩ := hc j hlt
      have lie1 := Lie.keep (lo := lo) (lo' := lo) lie (.of_below hb) hlo hbw
      have hr2 := FieldAt_stays _ _ _ lo _ _ (.of_below hb) hr
      have hsj : Hid (FieldD.small xs[j]) := hsm'.out.2 j hlt
      generalize hX : xs[j] = X at hr2 hsj
      have hX' : Hid _ := hX
      have hr3 : Hid (FieldAt wr lo cs X) := hr2
      clear hX hr lie hc
      obtain ⟨rfl, rName, rObj, _⟩ := hr2
      clear rName rObj
      have z0 := lie1 0 (by simp)
      have z1 := lie1 1 (by simp)
      simp only [List.getElem?_cons_zero, List.getElem?_cons_succ, Nat.add_zero] at z0 z1
      clear lie1 hcl hx' hmk
      go_wp2_with fail
      refine (toField_own hr3.out).mono ?_
      rintro e w1 ⟨⟨cs1, fs1, rfl, ht1, nd1, lo1⟩, hb1⟩
      have hcl1 : cs1.length = 2 := by obtain ⟨rfl, _⟩ := ht1; rfl
      have ht1' : Hid (FieldOwn w1 cs1 X fs1) := ht1
      have hi1 : Hid (∀ b ∈ fs1, b < w1.heap.size) := FieldOwn_lt _ _ _ _ ht1
      obtain ⟨rfl, rName, rObj, rfl⟩ := ht1
      clear rName rObj z0 z1
      obtain ⟨hv, hf⟩ := hfill.out.facts hlt hb1
      obtain ⟨v0, y0⟩ := hv 0 (by omega)
      have f0 := hf (j * 2 + 0)
      obtain ⟨v1, y1⟩ := hv 1 (by omega)
      have f1 := hf (j * 2 + 1)
      simp only [Nat.add_zero] at y0 f0
      clear hv hf
      go_wp2_with fail
      go_roundw
      case rel =>
        refine ⟨j + 1, bss ++ [[]], by omega, by go_num, ?_⟩
        have hst := FilledO.step FieldOwn_stays hfill.out hlt (Nat.le_refl _) hb1 hcl1 (by rw [hX'.out]; exact ht1'.out) (by simp) (by simp) (by simp)
        simp only [putCells] at hst
        exact hst
      case measure => simp [intOf]; omega
    · have e : j = xs.length := by omega
      subst e
      go_wp2_with fail
      go_ret
      obtain ⟨d1, d2⟩ := hfill.out.done (Nat.le_refl _) (by unfold maxLen; omega)
      exact ⟨⟨_, _, rfl, d1, d1.nodup, d2⟩, hb⟩
set_option maxHeartbeats 1000000 in
theorem toObj_own {w : World} {lo : Nat} {cs : List Value} {x : ObjD} (hx : ObjAt w lo cs x) (hsm : x.small) :
    Calls Tryz.prog 60 #[.agg cs.toArray] w fun e w' => (∃ cs' fs, e = .returned (.agg cs'.toArray) ∧ ObjOwn w' cs' x fs ∧ fs.Nodup ∧ ∀ b ∈ fs, w.heap.size ≤ b) ∧ Below w.heap.size w w' := by
  obtain ⟨k2, rfl, s2, rId, rNode, _⟩ := hx
  obtain ⟨mFields, _⟩ := hsm
  have s2' : Hid (SeqAt 2 FieldAt w lo k2 x.vFields) := s2
  obtain ⟨a2, cap2, rfl⟩ := s2.form
  clear s2
  have mFields' : Hid (AllS FieldD.small x.vFields) := mFields
  clear mFields
  have hb : Below w.heap.size w (((w.alloc (.cells #[.int .i64 x.vId, .int .i64 x.vNode, .slice a2 x.vFields.length cap2] 83)).alloc (.cells #[.int .i64 0, .int .i64 0, .slice none 0 0] 95)).alloc (.cells #[.int .i64 x.vId, .int .i64 x.vNode, .slice none 0 0] 95)) := (((Below.refl _ _).alloc (Nat.le_refl _) _).alloc (by simp) _).alloc (by simp; omega) _
  have hz : (((w.alloc (.cells #[.int .i64 x.vId, .int .i64 x.vNode, .slice a2 x.vFields.length cap2] 83)).alloc (.cells #[.int .i64 0, .int .i64 0, .slice none 0 0] 95)).alloc (.cells #[.int .i64 x.vId, .int .i64 x.vNode, .slice none 0 0] 95)).heap.size = w.heap.size + 3 := by simp
  have bA : Hid (Box (((w.alloc (.cells #[.int .i64 x.vId, .int .i64 x.vNode, .slice a2 x.vFields.length cap2] 83)).alloc (.cells #[.int .i64 0, .int .i64 0, .slice none 0 0] 95)).alloc (.cells #[.int .i64 x.vId, .int .i64 x.vNode, .slice none 0 0] 95)) w.heap.size [.int .i64 x.vId, .int .i64 x.vNode, .slice a2 x.vFields.length cap2] 83) := ((Box.new w _ _).alloc _).alloc _
  have bR : Hid (Box (((w.alloc (.cells #[.int .i64 x.vId, .int .i64 x.vNode, .slice a2 x.vFields.length cap2] 83)).alloc (.cells #[.int .i64 0, .int .i64 0, .slice none 0 0] 95)).alloc (.cells #[.int .i64 x.vId, .int .i64 x.vNode, .slice none 0 0] 95)) (w.heap.size + 1) [.int .i64 0, .int .i64 0, .slice none 0 0] 95) := by have := (Box.new (w.alloc (.cells #[.int .i64 x.vId, .int .i64 x.vNode, .slice a2 x.vFields.length cap2] 83)) [.int .i64 0, .int .i64 0, .slice none 0 0] 95).alloc (.cells #[.int .i64 x.vId, .int .i64 x.vNode, .slice none 0 0] 95); simpa [Hid] using this
  have bO : Hid (Box (((w.alloc (.cells #[.int .i64 x.vId, .int .i64 x.vNode, .slice a2 x.vFields.length cap2] 83)).alloc (.cells #[.int .i64 0, .int .i64 0, .slice none 0 0] 95)).alloc (.cells #[.int .i64 x.vId, .int .i64 x.vNode, .slice none 0 0] 95)) (w.heap.size + 1 + 1) [.int .i64 x.vId, .int .i64 x.vNode, .slice none 0 0] 95) := by have := Box.new ((w.alloc (.cells #[.int .i64 x.vId, .int .i64 x.vNode, .slice a2 x.vFields.length cap2] 83)).alloc (.cells #[.int .i64 0, .int .i64 0, .slice none 0 0] 95)) [.int .i64 x.vId, .int .i64 x.vNode, .slice none 0 0] 95; simpa [Hid] using this
  go_enter Tryz.func60, Tryz.ntmps60
  go_wp2_with fail
  refine (toFieldS_own (s2'.out.below FieldAt_stays hb) mFields'.out).mono ?_
  rintro e u2 ⟨⟨kk2, fs2, rfl, ss2, nd2, lo2⟩, hbc⟩
  obtain ⟨aa2, cc2, rfl⟩ := ss2.form
  have hz2 : w.heap.size + 3 ≤ u2.heap.size := by have := hbc.size; omega
  have hi2 : Hid (∀ b ∈ fs2, b < u2.heap.size) := ss2.lt FieldOwn_lt
  have lw2 : Hid (∀ b ∈ fs2, w.heap.size + 3 ≤ b) := fun b q => by have := lo2 b q; omega
  replace hb := hb.trans (hbc.mono hb.size)
  have bA2 : Hid (Box u2 w.heap.size [.int .i64 x.vId, .int .i64 x.vNode, .slice a2 x.vFields.length cap2] 83) := bA.out.below hbc bA.out.lt
  have bR2 : Hid (Box u2 (w.heap.size + 1) [.int .i64 0, .int .i64 0, .slice none 0 0] 95) := bR.out.below hbc bR.out.lt
  have bO2 : Hid (Box u2 (w.heap.size + 1 + 1) [.int .i64 x.vId, .int .i64 x.vNode, .slice none 0 0] 95) := bO.out.below hbc bO.out.lt
  have ss2' : Hid (SeqOwn 2 FieldOwn u2 (.slice aa2 x.vFields.length cc2) x.vFields fs2) := ss2
  have tA2_0 := bA2.out.cell 0 rfl
  have tR2_0 := bR2.out.cell 0 rfl
  have tO2_0 := bO2.out.cell 0 rfl
  have tA2_1 := bA2.out.cell 1 rfl
  have tR2_1 := bR2.out.cell 1 rfl
  have tO2_1 := bO2.out.cell 1 rfl
  have tA2_2 := bA2.out.cell 2 rfl
  have tR2_2 := bR2.out.cell 2 rfl
  have tO2_2 := bO2.out.cell 2 rfl
  have fR2 := bR2.out.unfrozen
  have fO2 := bO2.out.unfrozen
  clear hbc ss2 bA bR bO hz
  have bA : Hid (Box (putCells u2 (w.heap.size + 1 + 1) 2 [.slice aa2 x.vFields.length cc2]) w.heap.size [.int .i64 x.vId, .int .i64 x.vNode, .slice a2 x.vFields.length cap2] 83) := (bA2.out.other (by omega) _)
  have bR : Hid (Box (putCells u2 (w.heap.size + 1 + 1) 2 [.slice aa2 x.vFields.length cc2]) (w.heap.size + 1) [.int .i64 0, .int .i64 0, .slice none 0 0] 95) := (bR2.out.other (by omega) _)
  have bO : Hid (Box (putCells u2 (w.heap.size + 1 + 1) 2 [.slice aa2 x.vFields.length cc2]) (w.heap.size + 1 + 1) [.int .i64 x.vId, .int .i64 x.vNode, .slice aa2 x.vFields.length cc2] 95) := (bO2.out.set _)
  have hz : (putCells u2 (w.heap.size + 1 + 1) 2 [.slice aa2 x.vFields.length cc2]).heap.size = u2.heap.size := putCells_size _ _ _ _
  replace hb : Below w.heap.size w (putCells u2 (w.heap.size + 1 + 1) 2 [.slice aa2 x.vFields.length cc2]) := putCells_below _ _ _ _ _ _ (by omega) hb
  have ss2n : Hid (SeqOwn 2 FieldOwn (putCells u2 (w.heap.size + 1 + 1) 2 [.slice aa2 x.vFields.length cc2]) (.slice aa2 x.vFields.length cc2) x.vFields fs2) := SeqOwn.put FieldOwn_stays ss2'.out (fun b q => by have := lw2.out b q; omega)
  clear ss2'
  have ss2' := ss2n
  clear ss2n
  clear bA2 bR2 bO2
  go_wp2_with fail
  refine bodyPost_ret (v := .agg #[.int .i64 x.vId, .int .i64 x.vNode, .slice aa2 x.vFields.length cc2]) (by simp [results, Tryz.results60, go_sem, tR2_0, tR2_1, tR2_2]) rfl ⟨⟨_, fs2, rfl, ⟨.slice aa2 x.vFields.length cc2, fs2, rfl, ?s2, rId, rNode, rfl⟩, ?nd, ?lo⟩, ?bel⟩
  case s2 => exact SeqOwn.put FieldOwn_stays ss2'.out (g := (w.heap.size + 1)) (o := 0) (vs := [.int .i64 x.vId, .int .i64 x.vNode, .slice aa2 x.vFields.length cc2]) (fun b q => by have := lw2.out b q; omega)
  case nd => exact nd2
  case lo =>
    intro b q
    have := lw2.out b q; omega
  case bel => exact putCells_below [.int .i64 x.vId, .int .i64 x.vNode, .slice aa2 x.vFields.length cc2] _ _ _ (w.heap.size + 1) 0 (by omega) hb
set_option maxHeartbeats 1000000 in
theorem toObjS_own {w : World} {lo : Nat} {k : Value} {xs : List ObjD} (hk : SeqAt 3 ObjAt w lo k xs) (hsm : AllS ObjD.small xs) :
    Calls Tryz.prog 25 #[k] w fun e w' => (∃ k' fs, e = .returned k' ∧ SeqOwn 3 ObjOwn w' k' xs fs ∧ fs.Nodup ∧ ∀ b ∈ fs, w.heap.size ≤ b) ∧ Below w.heap.size w w' := by
  obtain ⟨a, cap, rfl, hm, hx⟩ := hk
  unfold maxLen at hm
  have hx' : Hid _ := hx
  have hsm' : Hid (AllS ObjD.small xs) := hsm
  have hl := hsm.1
  clear hx hsm
  have hmk := run_newObj xs.length hl w
  go_enter Tryz.func25, Tryz.ntmps25
  go_wp2_with fail
  go_loopw [4] (fun i wr => ∃ (j : Nat) (bss : List (List Nat)), j ≤ xs.length ∧ i = .int .i64 j ∧ Hid (FilledO 95 3 ObjOwn w wr xs w.heap.size j bss)) (fun i _ => xs.length - (intOf i).toNat)
  case atStart => exact ⟨0, [], by omega, rfl, FilledO.start (newObj_size _)⟩
  case round =>
    obtain ⟨j, bss, hj, rfl, hfill⟩ := hrel
    have hb := hfill.out.1
    by_cases hlt : j < xs.length
    · obtain ⟨b, off, rfl, hlo, hbw, hc⟩ := hx'.out (by omega)
      obtain ⟨cs, hcl, lie, hr⟩ := hc j hlt
      have lie1 := Lie.keep (lo := lo) (lo' := lo) lie (.of_below hb) hlo hbw
      have hr2 := ObjAt_stays _ _ _ lo _ _ (.of_below hb) hr
      have hsj : Hid (ObjD.small xs[j]) := hsm'.out.2 j hlt
      generalize hX : xs[j] = X at hr2 hsj
      have hX' : Hid _ := hX
      have hr3 : Hid (ObjAt wr lo cs X) := hr2
      clear hX hr lie hc
      obtain ⟨k2, rfl, s2, rId, rNode, _⟩ := hr2
      clear s2 rId rNode
      have z0 := lie1 0 (by simp)
      have z1 := lie1 1 (by simp)
      have z2 := lie1 2 (by simp)
      simp only [List.getElem?_cons_zero, List.getElem?_cons_succ, Nat.add_zero] at z0 z1 z2
      clear lie1 hcl hx' hmk
      go_wp2_with fail
      refine (toObj_own hr3.out hsj.out).mono ?_
      rintro e w1 ⟨⟨cs1, fs1, rfl, ht1, nd1, lo1⟩, hb1⟩
      have hcl1 : cs1.length = 3 := by obtain ⟨_, _, rfl, _⟩ := ht1; rfl
      have ht1' : Hid (ObjOwn w1 cs1 X fs1) := ht1
      have hi1 : Hid (∀ b ∈ fs1, b < w1.heap.size) := ObjOwn_lt _ _ _ _ ht1
      obtain ⟨g2, fp2, rfl, t2, rId, rNode, _⟩ := ht1
      obtain ⟨b2, d2, rfl⟩ := t2.form
      clear t2 rId rNode z0 z1 z2
      obtain ⟨hv, hf⟩ := hfill.out.facts hlt hb1
      obtain ⟨v0, y0⟩ := hv 0 (by omega)
      have f0 := hf (j * 3 + 0)
      obtain ⟨v1, y1⟩ := hv 1 (by omega)
      have f1 := hf (j * 3 + 1)
      obtain ⟨v2, y2⟩ := hv 2 (by omega)
      have f2 := hf (j * 3 + 2)
      simp only [Nat.add_zero] at y0 f0
      clear hv hf
      go_wp2_with fail
      go_roundw
      case rel =>
        refine ⟨j + 1, bss ++ [fs1], by omega, by go_num, ?_⟩
        have hst := FilledO.step ObjOwn_stays hfill.out hlt (Nat.le_refl _) hb1 hcl1 (by rw [hX'.out]; exact ht1'.out) lo1 hi1.out nd1
        simp only [putCells, Nat.add_assoc, Nat.reduceAdd] at hst
        exact hst
      case measure => simp [intOf]; omega
    · have e : j = xs.length := by omega
      subst e
      go_wp2_with fail
      go_ret
      obtain ⟨d1, d2⟩ := hfill.out.done (Nat.le_refl _) (by unfold maxLen; omega)
      exact ⟨⟨_, _, rfl, d1, d1.nodup, d2⟩, hb⟩
set_option maxHeartbeats 1000000 in
theorem toHeap_own {w : World} {lo : Nat} {cs : List Value} {x : HeapD} (hx : HeapAt w lo cs x) (hsm : x.small) :
    Calls Tryz.prog 7 #[.agg cs.toArray] w fun e w' => (∃ cs' fs, e = .returned (.agg cs'.toArray) ∧ HeapOwn w' cs' x fs ∧ fs.Nodup ∧ ∀ b ∈ fs, w.heap.size ≤ b) ∧ Below w.heap.size w w' := by
  obtain ⟨k2, k3, k4, rfl, s2, s3, s4, rNext, rDoc, _⟩ := hx
  obtain ⟨mNodes, mObjs, mGlobals, _⟩ := hsm
  have s2' : Hid (SeqAt 6 NodeAt w lo k2 x.vNodes) := s2
  obtain ⟨a2, cap2, rfl⟩ := s2.form
  clear s2
  have mNodes' : Hid (AllS NodeD.small x.vNodes) := mNodes
  clear mNodes
  have s3' : Hid (SeqAt 3 ObjAt w lo k3 x.vObjs) := s3
  obtain ⟨a3, cap3, rfl⟩ := s3.form
  clear s3
  have mObjs' : Hid (AllS ObjD.small x.vObjs) := mObjs
  clear mObjs
  have s4' : Hid (SeqAt 2 FieldAt w lo k4 x.vGlobals) := s4
  obtain ⟨a4, cap4, rfl⟩ := s4.form
  clear s4
  have mGlobals' : Hid (AllS FieldD.small x.vGlobals) := mGlobals
  clear mGlobals
  have hb : Below w.heap.size w (((w.alloc (.cells #[.int .i64 x.vNext, .int .i64 x.vDoc, .slice a2 x.vNodes.length cap2, .slice a3 x.vObjs.length cap3, .slice a4 x.vGlobals.length cap4] 26)).alloc (.cells #[.int .i64 0, .int .i64 0, .slice none 0 0, .slice none 0 0, .slice none 0 0] 32)).alloc (.cells #[.int .i64 x.vNext, .int .i64 x.vDoc, .slice none 0 0, .slice none 0 0, .slice none 0 0] 32)) := (((Below.refl _ _).alloc (Nat.le_refl _) _).alloc (by simp) _).alloc (by simp; omega) _
  have hz : (((w.alloc (.cells #[.int .i64 x.vNext, .int .i64 x.vDoc, .slice a2 x.vNodes.length cap2, .slice a3 x.vObjs.length cap3, .slice a4 x.vGlobals.length cap4] 26)).alloc (.cells #[.int .i64 0, .int .i64 0, .slice none 0 0, .slice none 0 0, .slice none 0 0] 32)).alloc (.cells #[.int .i64 x.vNext, .int .i64 x.vDoc, .slice none 0 0, .slice none 0 0, .slice none 0 0] 32)).heap.size = w.heap.size + 3 := by simp
  have bA : Hid (Box (((w.alloc (.cells #[.int .i64 x.vNext, .int .i64 x.vDoc, .slice a2 x.vNodes.length cap2, .slice a3 x.vObjs.length cap3, .slice a4 x.vGlobals.length cap4] 26)).alloc (.cells #[.int .i64 0, .int .i64 0, .slice none 0 0, .slice none 0 0, .slice none 0 0] 32)).alloc (.cells #[.int .i64 x.vNext, .int .i64 x.vDoc, .slice none 0 0, .slice none 0 0, .slice none 0 0] 32)) w.heap.size [.int .i64 x.vNext, .int .i64 x.vDoc, .slice a2 x.vNodes.length cap2, .slice a3 x.vObjs.length cap3, .slice a4 x.vGlobals.length cap4] 26) := ((Box.new w _ _).alloc _).alloc _
  have bR : Hid (Box (((w.alloc (.cells #[.int .i64 x.vNext, .int .i64 x.vDoc, .slice a2 x.vNodes.length cap2, .slice a3 x.vObjs.length cap3, .slice a4 x.vGlobals.length cap4] 26)).alloc (.cells #[.int .i64 0, .int .i64 0, .slice none 0 0, .slice none 0 0, .slice none 0 0] 32)).alloc (.cells #[.int .i64 x.vNext, .int .i64 x.vDoc, .slice none 0 0, .slice none 0 0, .slice none 0 0] 32)) (w.heap.size + 1) [.int .i64 0, .int .i64 0, .slice none 0 0, .slice none 0 0, .slice none 0 0] 32) := by have := (Box.new (w.alloc (.cells #[.int .i64 x.vNext, .int .i64 x.vDoc, .slice a2 x.vNodes.length cap2, .slice a3 x.vObjs.length cap3, .slice a4 x.vGlobals.length cap4] 26)) [.int .i64 0, .int .i64 0, .slice none 0 0, .slice none 0 0, .slice none 0 0] 32).alloc (.cells #[.int .i64 x.vNext, .int .i64 x.vDoc, .slice none 0 0, .slice none 0 0, .slice none 0 0] 32); simpa [Hid] using this
  have bO : Hid (Box (((w.alloc (.cells #[.int .i64 x.vNext, .int .i64 x.vDoc, .slice a2 x.vNodes.length cap2, .slice a3 x.vObjs.length cap3, .slice a4 x.vGlobals.length cap4] 26)).alloc (.cells #[.int .i64 0, .int .i64 0, .slice none 0 0, .slice none 0 0, .slice none 0 0] 32)).alloc (.cells #[.int .i64 x.vNext, .int .i64 x.vDoc, .slice none 0 0, .slice none 0 0, .slice none 0 0] 32)) (w.heap.size + 1 + 1) [.int .i64 x.vNext, .int .i64 x.vDoc, .slice none 0 0, .slice none 0 0, .slice none 0 0] 32) := by have := Box.new ((w.alloc (.cells #[.int .i64 x.vNext, .int .i64 x.vDoc, .slice a2 x.vNodes.length cap2, .slice a3 x.vObjs.length cap3, .slice a4 x.vGlobals.length cap4] 26)).alloc (.cells #[.int .i64 0, .int .i64 0, .slice none 0 0, .slice none 0 0, .slice none 0 0] 32)) [.int .i64 x.vNext, .int .i64 x.vDoc, .slice none 0 0, .slice none 0 0, .slice none 0 0] 32; simpa [Hid] using this
  go_enter Tryz.func7, Tryz.ntmps7
  go_wp2_with fail
  refine (toNodeS_own (s2'.out.below NodeAt_stays hb) mNodes'.out).mono ?_
  rintro e u2 ⟨⟨kk2, fs2, rfl, ss2, nd2, lo2⟩, hbc⟩
  obtain ⟨aa2, cc2, rfl⟩ := ss2.form
  have hz2 : w.heap.size + 3 ≤ u2.heap.size := by have := hbc.size; omega
  have hi2 : Hid (∀ b ∈ fs2, b < u2.heap.size) := ss2.lt NodeOwn_lt
  have lw2 : Hid (∀ b ∈ fs2, w.heap.size + 3 ≤ b) := fun b q => by have := lo2 b q; omega
  replace hb := hb.trans (hbc.mono hb.size)
  have bA2 : Hid (Box u2 w.heap.size [.int .i64 x.vNext, .int .i64 x.vDoc, .slice a2 x.vNodes.length cap2, .slice a3 x.vObjs.length cap3, .slice a4 x.vGlobals.length cap4] 26) := bA.out.below hbc bA.out.lt
  have bR2 : Hid (Box u2 (w.heap.size + 1) [.int .i64 0, .int .i64 0, .slice none 0 0, .slice none 0 0, .slice none 0 0] 32) := bR.out.below hbc bR.out.lt
  have bO2 : Hid (Box u2 (w.heap.size + 1 + 1) [.int .i64 x.vNext, .int .i64 x.vDoc, .slice none 0 0, .slice none 0 0, .slice none 0 0] 32) := bO.out.below hbc bO.out.lt
  have ss2' : Hid (SeqOwn 6 NodeOwn u2 (.slice aa2 x.vNodes.length cc2) x.vNodes fs2) := ss2
  have tA2_0 := bA2.out.cell 0 rfl
  have tR2_0 := bR2.out.cell 0 rfl
  have tO2_0 := bO2.out.cell 0 rfl
  have tA2_1 := bA2.out.cell 1 rfl
  have tR2_1 := bR2.out.cell 1 rfl
  have tO2_1 := bO2.out.cell 1 rfl
  have tA2_2 := bA2.out.cell 2 rfl
  have tR2_2 := bR2.out.cell 2 rfl
  have tO2_2 := bO2.out.cell 2 rfl
  have tA2_3 := bA2.out.cell 3 rfl
  have tR2_3 := bR2.out.cell 3 rfl
  have tO2_3 := bO2.out.cell 3 rfl
  have tA2_4 := bA2.out.cell 4 rfl
  have tR2_4 := bR2.out.cell 4 rfl
  have tO2_4 := bO2.out.cell 4 rfl
  have fR2 := bR2.out.unfrozen
  have fO2 := bO2.out.unfrozen
  clear hbc ss2 bA bR bO hz
  have bA : Hid (Box (putCells u2 (w.heap.size + 1 + 1) 2 [.slice aa2 x.vNodes.length cc2]) w.heap.size [.int .i64 x.vNext, .int .i64 x.vDoc, .slice a2 x.vNodes.length cap2, .slice a3 x.vObjs.length cap3, .slice a4 x.vGlobals.length cap4] 26) := (bA2.out.other (by omega) _)
  have bR : Hid (Box (putCells u2 (w.heap.size + 1 + 1) 2 [.slice aa2 x.vNodes.length cc2]) (w.heap.size + 1) [.int .i64 0, .int .i64 0, .slice none 0 0, .slice none 0 0, .slice none 0 0] 32) := (bR2.out.other (by omega) _)
  have bO : Hid (Box (putCells u2 (w.heap.size + 1 + 1) 2 [.slice aa2 x.vNodes.length cc2]) (w.heap.size + 1 + 1) [.int .i64 x.vNext, .int .i64 x.vDoc, .slice aa2 x.vNodes.length cc2, .slice none 0 0, .slice none 0 0] 32) := (bO2.out.set _)
  have hz : (putCells u2 (w.heap.size + 1 + 1) 2 [.slice aa2 x.vNodes.length cc2]).heap.size = u2.heap.size := putCells_size _ _ _ _
  replace hb : Below w.heap.size w (putCells u2 (w.heap.size + 1 + 1) 2 [.slice aa2 x.vNodes.length cc2]) := putCells_below _ _ _ _ _ _ (by omega) hb
  have ss2n : Hid (SeqOwn 6 NodeOwn (putCells u2 (w.heap.size + 1 + 1) 2 [.slice aa2 x.vNodes.length cc2]) (.slice aa2 x.vNodes.length cc2) x.vNodes fs2) := SeqOwn.put NodeOwn_stays ss2'.out (fun b q => by have := lw2.out b q; omega)
  clear ss2'
  have ss2' := ss2n
  clear ss2n
  clear bA2 bR2 bO2
  go_wp2_with fail
  refine (toObjS_own (s3'.out.below ObjAt_stays hb) mObjs'.out).mono ?_
  rintro e u3 ⟨⟨kk3, fs3, rfl, ss3, nd3, lo3⟩, hbc⟩
  obtain ⟨aa3, cc3, rfl⟩ := ss3.form
  have hz3 : w.heap.size + 3 ≤ u3.heap.size := by have := hbc.size; omega
  have hi3 : Hid (∀ b ∈ fs3, b < u3.heap.size) := ss3.lt ObjOwn_lt
  have lw3 : Hid (∀ b ∈ fs3, w.heap.size + 3 ≤ b) := fun b q => by have := lo3 b q; omega
  have lp3 : Hid (∀ b ∈ fs3, u2.heap.size ≤ b) := fun b q => by have := lo3 b q; omega
  have mz3 : Hid (u2.heap.size ≤ u3.heap.size) := by show _ ≤ _; have := hbc.size; omega
  replace hb := hb.trans (hbc.mono hb.size)
  have bA3 : Hid (Box u3 w.heap.size [.int .i64 x.vNext, .int .i64 x.vDoc, .slice a2 x.vNodes.length cap2, .slice a3 x.vObjs.length cap3, .slice a4 x.vGlobals.length cap4] 26) := bA.out.below hbc bA.out.lt
  have bR3 : Hid (Box u3 (w.heap.size + 1) [.int .i64 0, .int .i64 0, .slice none 0 0, .slice none 0 0, .slice none 0 0] 32) := bR.out.below hbc bR.out.lt
  have bO3 : Hid (Box u3 (w.heap.size + 1 + 1) [.int .i64 x.vNext, .int .i64 x.vDoc, .slice aa2 x.vNodes.length cc2, .slice none 0 0, .slice none 0 0] 32) := bO.out.below hbc bO.out.lt
  have ss2n : Hid (SeqOwn 6 NodeOwn u3 (.slice aa2 x.vNodes.length cc2) x.vNodes fs2) := SeqOwn.below NodeOwn_stays NodeOwn_lt ss2'.out hbc
  clear ss2'
  have ss2' := ss2n
  clear ss2n
  have ss3' : Hid (SeqOwn 3 ObjOwn u3 (.slice aa3 x.vObjs.length cc3) x.vObjs fs3) := ss3
  clear tA2_0 tR2_0 tO2_0 tA2_1 tR2_1 tO2_1 tA2_2 tR2_2 tO2_2 tA2_3 tR2_3 tO2_3 tA2_4 tR2_4 tO2_4 fR2 fO2
  have tA3_0 := bA3.out.cell 0 rfl
  have tR3_0 := bR3.out.cell 0 rfl
  have tO3_0 := bO3.out.cell 0 rfl
  have tA3_1 := bA3.out.cell 1 rfl
  have tR3_1 := bR3.out.cell 1 rfl
  have tO3_1 := bO3.out.cell 1 rfl
  have tA3_2 := bA3.out.cell 2 rfl
  have tR3_2 := bR3.out.cell 2 rfl
  have tO3_2 := bO3.out.cell 2 rfl
  have tA3_3 := bA3.out.cell 3 rfl
  have tR3_3 := bR3.out.cell 3 rfl
  have tO3_3 := bO3.out.cell 3 rfl
  have tA3_4 := bA3.out.cell 4 rfl
  have tR3_4 := bR3.out.cell 4 rfl
  have tO3_4 := bO3.out.cell 4 rfl
  have fR3 := bR3.out.unfrozen
  have fO3 := bO3.out.unfrozen
  clear hbc ss3 bA bR bO hz
  have bA : Hid (Box (putCells u3 (w.heap.size + 1 + 1) 3 [.slice aa3 x.vObjs.length cc3]) w.heap.size [.int .i64 x.vNext, .int .i64 x.vDoc, .slice a2 x.vNodes.length cap2, .slice a3 x.vObjs.length cap3, .slice a4 x.vGlobals.length cap4] 26) := (bA3.out.other (by omega) _)
  have bR : Hid (Box (putCells u3 (w.heap.size + 1 + 1) 3 [.slice aa3 x.vObjs.length cc3]) (w.heap.size + 1) [.int .i64 0, .int .i64 0, .slice none 0 0, .slice none 0 0, .slice none 0 0] 32) := (bR3.out.other (by omega) _)
  have bO : Hid (Box (putCells u3 (w.heap.size + 1 + 1) 3 [.slice aa3 x.vObjs.length cc3]) (w.heap.size + 1 + 1) [.int .i64 x.vNext, .int .i64 x.vDoc, .slice aa2 x.vNodes.length cc2, .slice aa3 x.vObjs.length cc3, .slice none 0 0] 32) := (bO3.out.set _)
  have hz : (putCells u3 (w.heap.size + 1 + 1) 3 [.slice aa3 x.vObjs.length cc3]).heap.size = u3.heap.size := putCells_size _ _ _ _
  replace hb : Below w.heap.size w (putCells u3 (w.heap.size + 1 + 1) 3 [.slice aa3 x.vObjs.length cc3]) := putCells_below _ _ _ _ _ _ (by omega) hb
  have ss2n : Hid (SeqOwn 6 NodeOwn (putCells u3 (w.heap.size + 1 + 1) 3 [.slice aa3 x.vObjs.length cc3]) (.slice aa2 x.vNodes.length cc2) x.vNodes fs2) := SeqOwn.put NodeOwn_stays ss2'.out (fun b q => by have := lw2.out b q; omega)
  clear ss2'
  have ss2' := ss2n
  clear ss2n
  have ss3n : Hid (SeqOwn 3 ObjOwn (putCells u3 (w.heap.size + 1 + 1) 3 [.slice aa3 x.vObjs.length cc3]) (.slice aa3 x.vObjs.length cc3) x.vObjs fs3) := SeqOwn.put ObjOwn_stays ss3'.out (fun b q => by have := lw3.out b q; omega)
  clear ss3'
  have ss3' := ss3n
  clear ss3n
  clear bA3 bR3 bO3
  go_wp2_with fail
  refine (toFieldS_own (s4'.out.below FieldAt_stays hb) mGlobals'.out).mono ?_
  rintro e u4 ⟨⟨kk4, fs4, rfl, ss4, nd4, lo4⟩, hbc⟩
  obtain ⟨aa4, cc4, rfl⟩ := ss4.form
  have hz4 : w.heap.size + 3 ≤ u4.heap.size := by have := hbc.size; omega
  have hi4 : Hid (∀ b ∈ fs4, b < u4.heap.size) := ss4.lt FieldOwn_lt
  have lw4 : Hid (∀ b ∈ fs4, w.heap.size + 3 ≤ b) := fun b q => by have := lo4 b q; omega
  have lp4 : Hid (∀ b ∈ fs4, u3.heap.size ≤ b) := fun b q => by have := lo4 b q; omega
  have mz4 : Hid (u3.heap.size ≤ u4.heap.size) := by show _ ≤ _; have := hbc.size; omega
  replace hb := hb.trans (hbc.mono hb.size)
  have bA4 : Hid (Box u4 w.heap.size [.int .i64 x.vNext, .int .i64 x.vDoc, .slice a2 x.vNodes.length cap2, .slice a3 x.vObjs.length cap3, .slice a4 x.vGlobals.length cap4] 26) := bA.out.below hbc bA.out.lt
  have bR4 : Hid (Box u4 (w.heap.size + 1) [.int .i64 0, .int .i64 0, .slice none 0 0, .slice none 0 0, .slice none 0 0] 32) := bR.out.below hbc bR.out.lt
  have bO4 : Hid (Box u4 (w.heap.size + 1 + 1) [.int .i64 x.vNext, .int .i64 x.vDoc, .slice aa2 x.vNodes.length cc2, .slice aa3 x.vObjs.length cc3, .slice none 0 0] 32) := bO.out.below hbc bO.out.lt
  have ss2n : Hid (SeqOwn 6 NodeOwn u4 (.slice aa2 x.vNodes.length cc2) x.vNodes fs2) := SeqOwn.below NodeOwn_stays NodeOwn_lt ss2'.out hbc
  clear ss2'
  have ss2' := ss2n
  clear ss2n
  have ss3n : Hid (SeqOwn 3 ObjOwn u4 (.slice aa3 x.vObjs.length cc3) x.vObjs fs3) := SeqOwn.below ObjOwn_stays ObjOwn_lt ss3'.out hbc
  clear ss3'
  have ss3' := ss3n
  clear ss3n
  have ss4' : Hid (SeqOwn 2 FieldOwn u4 (.slice aa4 x.vGlobals.length cc4) x.vGlobals fs4) := ss4
  clear tA3_0 tR3_0 tO3_0 tA3_1 tR3_1 tO3_1 tA3_2 tR3_2 tO3_2 tA3_3 tR3_3 tO3_3 tA3_4 tR3_4 tO3_4 fR3 fO3
  have tA4_0 := bA4.out.cell 0 rfl
  have tR4_0 := bR4.out.cell 0 rfl
  have tO4_0 := bO4.out.cell 0 rfl
  have tA4_1 := bA4.out.cell 1 rfl
  have tR4_1 := bR4.out.cell 1 rfl
  have tO4_1 := bO4.out.cell 1 rfl
  have tA4_2 := bA4.out.cell 2 rfl
  have tR4_2 := bR4.out.cell 2 rfl
  have tO4_2 := bO4.out.cell 2 rfl
  have tA4_3 := bA4.out.cell 3 rfl
  have tR4_3 := bR4.out.cell 3 rfl
  have tO4_3 := bO4.out.cell 3 rfl
  have tA4_4 := bA4.out.cell 4 rfl
  have tR4_4 := bR4.out.cell 4 rfl
  have tO4_4 := bO4.out.cell 4 rfl
  have fR4 := bR4.out.unfrozen
  have fO4 := bO4.out.unfrozen
  clear hbc ss4 bA bR bO hz
  have bA : Hid (Box (putCells u4 (w.heap.size + 1 + 1) 4 [.slice aa4 x.vGlobals.length cc4]) w.heap.size [.int .i64 x.vNext, .int .i64 x.vDoc, .slice a2 x.vNodes.length cap2, .slice a3 x.vObjs.length cap3, .slice a4 x.vGlobals.length cap4] 26) := (bA4.out.other (by omega) _)
  have bR : Hid (Box (putCells u4 (w.heap.size + 1 + 1) 4 [.slice aa4 x.vGlobals.length cc4]) (w.heap.size + 1) [.int .i64 0, .int .i64 0, .slice none 0 0, .slice none 0 0, .slice none 0 0] 32) := (bR4.out.other (by omega) _)
  have bO : Hid (Box (putCells u4 (w.heap.size + 1 + 1) 4 [.slice aa4 x.vGlobals.length cc4]) (w.heap.size + 1 + 1) [.int .i64 x.vNext, .int .i64 x.vDoc, .slice aa2 x.vNodes.length cc2, .slice aa3 x.vObjs.length cc3, .slice aa4 x.vGlobals.length cc4] 32) := (bO4.out.set _)
  have hz : (putCells u4 (w.heap.size + 1 + 1) 4 [.slice aa4 x.vGlobals.length cc4]).heap.size = u4.heap.size := putCells_size _ _ _ _
  replace hb : Below w.heap.size w (putCells u4 (w.heap.size + 1 + 1) 4 [.slice aa4 x.vGlobals.length cc4]) := putCells_below _ _ _ _ _ _ (by omega) hb
  have ss2n : Hid (SeqOwn 6 NodeOwn (putCells u4 (w.heap.size + 1 + 1) 4 [.slice aa4 x.vGlobals.length cc4]) (.slice aa2 x.vNodes.length cc2) x.vNodes fs2) := SeqOwn.put NodeOwn_stays ss2'.out (fun b q => by have := lw2.out b q; omega)
  clear ss2'
  have ss2' := ss2n
  clear ss2n
  have ss3n : Hid (SeqOwn 3 ObjOwn (putCells u4 (w.heap.size + 1 + 1) 4 [.slice aa4 x.vGlobals.length cc4]) (.slice aa3 x.vObjs.length cc3) x.vObjs fs3) := SeqOwn.put ObjOwn_stays ss3'.out (fun b q => by have := lw3.out b q; omega)
  clear ss3'
  have ss3' := ss3n
  clear ss3n
  have ss4n : Hid (SeqOwn 2 FieldOwn (putCells u4 (w.heap.size + 1 + 1) 4 [.slice aa4 x.vGlobals.length cc4]) (.slice aa4 x.vGlobals.length cc4) x.vGlobals fs4) := SeqOwn.put FieldOwn_stays ss4'.out (fun b q => by have := lw4.out b q; omega)
  clear ss4'
  have ss4' := ss4n
  clear ss4n
  clear bA4 bR4 bO4
  go_wp2_with fail
  refine bodyPost_ret (v := .agg #[.int .i64 x.vNext, .int .i64 x.vDoc, .slice aa2 x.vNodes.length cc2, .slice aa3 x.vObjs.length cc3, .slice aa4 x.vGlobals.length cc4]) (by simp [results, Tryz.results7, go_sem, tR4_0, tR4_1, tR4_2, tR4_3, tR4_4]) rfl ⟨⟨_, fs2 ++ fs3 ++ fs4, rfl, ⟨.slice aa2 x.vNodes.length cc2, .slice aa3 x.vObjs.length cc3, .slice aa4 x.vGlobals.length cc4, fs2, fs3, fs4, rfl, ?s2, ?s3, ?s4, rNext, rDoc, rfl⟩, ?nd, ?lo⟩, ?bel⟩
  case s2 => exact SeqOwn.put NodeOwn_stays ss2'.out (g := (w.heap.size + 1)) (o := 0) (vs := [.int .i64 x.vNext, .int .i64 x.vDoc, .slice aa2 x.vNodes.length cc2, .slice aa3 x.vObjs.length cc3, .slice aa4 x.vGlobals.length cc4]) (fun b q => by have := lw2.out b q; omega)
  case s3 => exact SeqOwn.put ObjOwn_stays ss3'.out (g := (w.heap.size + 1)) (o := 0) (vs := [.int .i64 x.vNext, .int .i64 x.vDoc, .slice aa2 x.vNodes.length cc2, .slice aa3 x.vObjs.length cc3, .slice aa4 x.vGlobals.length cc4]) (fun b q => by have := lw3.out b q; omega)
  case s4 => exact SeqOwn.put FieldOwn_stays ss4'.out (g := (w.heap.size + 1)) (o := 0) (vs := [.int .i64 x.vNext, .int .i64 x.vDoc, .slice aa2 x.vNodes.length cc2, .slice aa3 x.vObjs.length cc3, .slice aa4 x.vGlobals.length cc4]) (fun b q => by have := lw4.out b q; omega)
  case nd => exact nodup_two (q := u3.heap.size) (nodup_two nd2 nd3 hi2.out lp3.out) nd4 (fun b q => (List.mem_append.1 q).elim (fun q => Nat.lt_of_lt_of_le (hi2.out b q) mz3.out) (fun q => hi3.out b q)) lp4.out
  case lo =>
    intro b q
    simp only [List.mem_append] at q
    rcases q with (q | q) | q
    · have := lw2.out b q; omega
    · have := lw3.out b q; omega
    · have := lw4.out b q; omega
  case bel => exact putCells_below [.int .i64 x.vNext, .int .i64 x.vDoc, .slice aa2 x.vNodes.length cc2, .slice aa3 x.vObjs.length cc3, .slice aa4 x.vGlobals.length cc4] _ _ _ (w.heap.size + 1) 0 (by omega) hb
end Go.Proofs.YtnonfehmbabfhaaGreat
