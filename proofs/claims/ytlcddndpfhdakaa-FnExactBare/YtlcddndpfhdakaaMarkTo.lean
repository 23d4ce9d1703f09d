/- What the functions to.. of the laws hand back: a copy in new memory. -/
import Derived.Test.YtlcddndpfhdakaaMarkRecs
import Derived.WalkKit
namespace Go.Proofs.Ytlcddndpfhdakaa
open Go.RowKit
set_option maxHeartbeats 1000000 in
theorem toAttr_any {w : World} {lo : Nat} {cs : List Value} {x : AttrD} (hx : AttrAt w lo cs x) :
    Calls Try.prog 31 #[.agg cs.toArray] w fun e w' => (∃ cs', e = .returned (.agg cs'.toArray) ∧ AttrAt w' w.heap.size cs' x) ∧ Below w.heap.size w w' := by
  obtain ⟨rfl, rName, rValue, _⟩ := hx
  go_enter Try.func31, Try.ntmps31
  go_wp2_with fail
  exact bodyPost_ret (v := .agg (List.toArray [.string x.vName, .string x.vValue])) (by simp [results, Try.results31, go_sem]) rfl ⟨⟨_, rfl, rfl, rName, rValue, trivial⟩, (((Below.refl _ _).alloc (Nat.le_refl _) _).alloc (by simp) _).alloc (by simp; omega) _⟩
theorem infoAttr : ((Try.prog.info? 58).map fun i => (i.zero, i.bytes, i.size)) = some (some (.agg #[.string ByteArray.empty, .string ByteArray.empty]), 32, 2) := by kernel_rfl
/-- the cells of n new ones -/
def newAttr (n : Nat) : Array Value := madeCells #[.string ByteArray.empty, .string ByteArray.empty] (n * 2)
theorem newAttr_size (n : Nat) : (newAttr n).size = n * 2 := size_madeCells _ _
theorem run_newAttr (n : Nat) (h : n ≤ 1048576) (w : World) : Sem.run Try.prog (Instr.makeSlice 32 (.int .i64 (n : Int)) (.int .i64 (n : Int))) w = .ok (.slice (some ⟨w.heap.size, 0, none⟩) n n) (w.alloc (.cells (newAttr n) 58)) := by
  obtain ⟨i, hi, he⟩ := Option.map_eq_some_iff.1 infoAttr
  simp only [Prod.mk.injEq] at he
  have := run_make (P := Try.prog) w 32 58 i _ Try.underlying32 hi he.1 .i64 .i64 (n : Int) (n : Int) (by omega) (Int.le_refl _) (by rw [he.2.1]; omega) (by omega)
  rw [he.2.2] at this
  simpa [newAttr, Value.cells] using this
set_option maxHeartbeats 1000000 in
theorem toAttrS_any {w : World} {lo : Nat} {k : Value} {xs : List AttrD} (hk : SeqAt 2 AttrAt w lo k xs) (hsm : AllS AttrD.small xs) :
    Calls Try.prog 17 #[k] w fun e w' => (∃ k', e = .returned k' ∧ SeqAt 2 AttrAt w' w.heap.size k' xs) ∧ Below w.heap.size w w' := by
  obtain ⟨a, cap, rfl, hm, hx⟩ := hk
  unfold maxLen at hm
  have hx' : Hid _ := hx
  have hsm' : Hid (AllS AttrD.small xs) := hsm
  have hl := hsm.1
  clear hx hsm
  have hmk := run_newAttr xs.length hl w
  go_enter Try.func17, Try.ntmps17
  go_wp2_with fail
  go_loopw [4] (fun i wr => ∃ (j : Nat), j ≤ xs.length ∧ i = .int .i64 j ∧ Hid (Filled 58 2 AttrAt w wr xs w.heap.size j)) (fun i _ => xs.length - (intOf i).toNat)
  case atStart => exact ⟨0, by omega, rfl, Filled.start (newAttr_size _)⟩
  case round =>
    obtain ⟨j, hj, rfl, hfill⟩ := hrel
    have hb := hfill.out.1
    by_cases hlt : j < xs.length
    · obtain ⟨b, off, rfl, hlo, hbw, hc⟩ := hx'.out (by omega)
      obtain ⟨cs, hcl, lie, hr⟩ := hc j hlt
      have lie1 := Lie.keep (lo := lo) (lo' := lo) lie (.of_below hb) hlo hbw
      have hr2 := AttrAt_stays _ _ _ lo _ _ (.of_below hb) hr
      have hsj : Hid (AttrD.small xs[j]) := hsm'.out.2 j hlt
      generalize hX : xs[j] = X at hr2 hsj
      have hX' : Hid _ := hX
      have hr3 : Hid (AttrAt wr lo cs X) := hr2
      clear hX hr lie hc
      obtain ⟨rfl, rName, rValue, _⟩ := hr2
      clear rName rValue
      have z0 := lie1 0 (by simp)
      have z1 := lie1 1 (by simp)
      simp only [List.getElem?_cons_zero, List.getElem?_cons_succ, Nat.add_zero] at z0 z1
      clear lie1 hcl hx' hmk
      go_wp2_with fail
      refine (toAttr_any hr3.out).mono ?_
      rintro e w1 ⟨⟨cs1, rfl, ht1⟩, hb1⟩
      have hcl1 : cs1.length = 2 := by obtain ⟨rfl, _⟩ := ht1; rfl
      have ht1' : Hid (AttrAt w1 wr.heap.size cs1 X) := ht1
      obtain ⟨rfl, rName, rValue, _⟩ := ht1
      clear rName rValue z0 z1
      obtain ⟨hv, hf⟩ := hfill.out.facts hlt hb1
      obtain ⟨v0, y0⟩ := hv 0 (by omega)
      have f0 := hf (j * 2 + 0)
      obtain ⟨v1, y1⟩ := hv 1 (by omega)
      have f1 := hf (j * 2 + 1)
      simp only [Nat.add_zero] at y0 f0
      clear hv hf
      go_wp2_with fail
      go_roundw
      case rel =>
        refine ⟨j + 1, by omega, by go_num, ?_⟩
        have hst := Filled.step AttrAt_stays hfill.out hlt (Nat.le_refl _) hb1 hcl1 (by rw [hX'.out]; exact ht1'.out)
        simp only [putCells] at hst
        exact hst
      case measure => simp [intOf]; omega
    · have e : j = xs.length := by omega
      subst e
      go_wp2_with fail
      go_ret
      exact ⟨⟨_, rfl, hfill.out.done AttrAt_stays (Nat.le_refl _) (by unfold maxLen; omega)⟩, hb⟩
def ToM (n : Nat) : Prop := ∀ (w : World) (lo : Nat) (cs : List Value) (x : MarkD), MarkAt n w lo cs x → MarkD.small n x →
    Calls Try.prog 6 #[.agg cs.toArray] w fun e w' => (∃ cs', e = .returned (.agg cs'.toArray) ∧ MarkAt n w' w.heap.size cs' x) ∧ Below w.heap.size w w'
def ToMS (n : Nat) : Prop := ∀ (w : World) (lo : Nat) (k : Value) (xs : List MarkD), SeqAt 4 (MarkAt n) w lo k xs → AllS (MarkD.small n) xs →
    Calls Try.prog 18 #[k] w fun e w' => (∃ k', e = .returned k' ∧ SeqAt 4 (MarkAt n) w' w.heap.size k' xs) ∧ Below w.heap.size w w'
theorem infoMark : ((Try.prog.info? 35).map fun i => (i.zero, i.bytes, i.size)) = some (some (.agg #[.string ByteArray.empty, .string ByteArray.empty, .slice none 0 0, .slice none 0 0]), 80, 4) := by kernel_rfl
/-- the cells of n new ones -/
def newMark (n : Nat) : Array Value := madeCells #[.string ByteArray.empty, .string ByteArray.empty, .slice none 0 0, .slice none 0 0] (n * 4)
theorem newMark_size (n : Nat) : (newMark n).size = n * 4 := size_madeCells _ _
theorem run_newMark (n : Nat) (h : n ≤ 1048576) (w : World) : Sem.run Try.prog (Instr.makeSlice 33 (.int .i64 (n : Int)) (.int .i64 (n : Int))) w = .ok (.slice (some ⟨w.heap.size, 0, none⟩) n n) (w.alloc (.cells (newMark n) 35)) := by
  obtain ⟨i, hi, he⟩ := Option.map_eq_some_iff.1 infoMark
  simp only [Prod.mk.injEq] at he
  have := run_make (P := Try.prog) w 33 35 i _ Try.underlying33 hi he.1 .i64 .i64 (n : Int) (n : Int) (by omega) (Int.le_refl _) (by rw [he.2.1]; omega) (by omega)
  rw [he.2.2] at this
  simpa [newMark, Value.cells] using this
set_option maxHeartbeats 1000000 in
theorem toMark_of {n : Nat} (hK : Hid (ToMS n)) {w : World} {lo : Nat} {cs : List Value} {x : MarkD} (hx : MarkAt (n + 1) w lo cs x) (hsm : MarkD.small (n + 1) x) :
    Calls Try.prog 6 #[.agg cs.toArray] w fun e w' => (∃ cs', e = .returned (.agg cs'.toArray) ∧ MarkAt (n + 1) w' w.heap.size cs' x) ∧ Below w.heap.size w w' := by
  obtain ⟨k2, k3, rfl, s2, s3, rTag, rText, _⟩ := hx
  obtain ⟨_, _, mAttrs, mKids, _⟩ := hsm
  have s2' : Hid (SeqAt 2 AttrAt w lo k2 x.vAttrs) := s2
  obtain ⟨a2, cap2, rfl⟩ := s2.form
  clear s2
  have mAttrs' : Hid (AllS AttrD.small x.vAttrs) := mAttrs
  clear mAttrs
  have s3' : Hid (SeqAt 4 (MarkAt n) w lo k3 x.vKids) := s3
  obtain ⟨a3, cap3, rfl⟩ := s3.form
  clear s3
  have mKids' : Hid (AllS (MarkD.small n) x.vKids) := mKids
  clear mKids
  have hb : Below w.heap.size w (((w.alloc (.cells (List.toArray [.string x.vTag, .string x.vText, .slice a2 x.vAttrs.length cap2, .slice a3 x.vKids.length cap3]) 25)).alloc (.cells (List.toArray [.string ⟨#[]⟩, .string ⟨#[]⟩, .slice none 0 0, .slice none 0 0]) 35)).alloc (.cells (List.toArray [.string x.vTag, .string x.vText, .slice none 0 0, .slice none 0 0]) 35)) := (((Below.refl _ _).alloc (Nat.le_refl _) _).alloc (by simp) _).alloc (by simp; omega) _
  have hz : (((w.alloc (.cells (List.toArray [.string x.vTag, .string x.vText, .slice a2 x.vAttrs.length cap2, .slice a3 x.vKids.length cap3]) 25)).alloc (.cells (List.toArray [.string ⟨#[]⟩, .string ⟨#[]⟩, .slice none 0 0, .slice none 0 0]) 35)).alloc (.cells (List.toArray [.string x.vTag, .string x.vText, .slice none 0 0, .slice none 0 0]) 35)).heap.size = w.heap.size + 3 := by simp
  have bA : Hid (Box (((w.alloc (.cells (List.toArray [.string x.vTag, .string x.vText, .slice a2 x.vAttrs.length cap2, .slice a3 x.vKids.length cap3]) 25)).alloc (.cells (List.toArray [.string ⟨#[]⟩, .string ⟨#[]⟩, .slice none 0 0, .slice none 0 0]) 35)).alloc (.cells (List.toArray [.string x.vTag, .string x.vText, .slice none 0 0, .slice none 0 0]) 35)) w.heap.size [.string x.vTag, .string x.vText, .slice a2 x.vAttrs.length cap2, .slice a3 x.vKids.length cap3] 25) := ((Box.new w _ _).alloc _).alloc _
  have bR : Hid (Box (((w.alloc (.cells (List.toArray [.string x.vTag, .string x.vText, .slice a2 x.vAttrs.length cap2, .slice a3 x.vKids.length cap3]) 25)).alloc (.cells (List.toArray [.string ⟨#[]⟩, .string ⟨#[]⟩, .slice none 0 0, .slice none 0 0]) 35)).alloc (.cells (List.toArray [.string x.vTag, .string x.vText, .slice none 0 0, .slice none 0 0]) 35)) (w.heap.size + 1) [.string ⟨#[]⟩, .string ⟨#[]⟩, .slice none 0 0, .slice none 0 0] 35) := by have := (Box.new (w.alloc (.cells (List.toArray [.string x.vTag, .string x.vText, .slice a2 x.vAttrs.length cap2, .slice a3 x.vKids.length cap3]) 25)) [.string ⟨#[]⟩, .string ⟨#[]⟩, .slice none 0 0, .slice none 0 0] 35).alloc (.cells (List.toArray [.string x.vTag, .string x.vText, .slice none 0 0, .slice none 0 0]) 35); simpa [Hid] using this
  have bO : Hid (Box (((w.alloc (.cells (List.toArray [.string x.vTag, .string x.vText, .slice a2 x.vAttrs.length cap2, .slice a3 x.vKids.length cap3]) 25)).alloc (.cells (List.toArray [.string ⟨#[]⟩, .string ⟨#[]⟩, .slice none 0 0, .slice none 0 0]) 35)).alloc (.cells (List.toArray [.string x.vTag, .string x.vText, .slice none 0 0, .slice none 0 0]) 35)) (w.heap.size + 1 + 1) [.string x.vTag, .string x.vText, .slice none 0 0, .slice none 0 0] 35) := by have := Box.new ((w.alloc (.cells (List.toArray [.string x.vTag, .string x.vText, .slice a2 x.vAttrs.length cap2, .slice a3 x.vKids.length cap3]) 25)).alloc (.cells (List.toArray [.string ⟨#[]⟩, .string ⟨#[]⟩, .slice none 0 0, .slice none 0 0]) 35)) [.string x.vTag, .string x.vText, .slice none 0 0, .slice none 0 0] 35; simpa [Hid] using this
  go_enter Try.func6, Try.ntmps6
  go_wp2_with fail
  refine (toAttrS_any (s2'.out.below AttrAt_stays hb) mAttrs'.out).mono ?_
  rintro e u2 ⟨⟨kk2, rfl, ss2⟩, hbc⟩
  obtain ⟨aa2, cc2, rfl⟩ := ss2.form
  have hz2 : w.heap.size + 3 ≤ u2.heap.size := by have := hbc.size; omega
  replace hb := hb.trans (hbc.mono hb.size)
  have bA2 : Hid (Box u2 w.heap.size [.string x.vTag, .string x.vText, .slice a2 x.vAttrs.length cap2, .slice a3 x.vKids.length cap3] 25) := bA.out.below hbc bA.out.lt
  have bR2 : Hid (Box u2 (w.heap.size + 1) [.string ⟨#[]⟩, .string ⟨#[]⟩, .slice none 0 0, .slice none 0 0] 35) := bR.out.below hbc bR.out.lt
  have bO2 : Hid (Box u2 (w.heap.size + 1 + 1) [.string x.vTag, .string x.vText, .slice none 0 0, .slice none 0 0] 35) := bO.out.below hbc bO.out.lt
  have ss2' : Hid (SeqAt 2 AttrAt u2 (w.heap.size + 3) (.slice aa2 x.vAttrs.length cc2) x.vAttrs) := ss2.keep AttrAt_stays (.lower (by omega))
  have tA2_0 := bA2.out.cell 0 rfl
  have tR2_0 := bR2.out.cell 0 rfl
  have tO2_0 := bO2.out.cell 0 rfl
  have tA2_1 := bA2.out.cell 1 rfl
  have tR2_1 := bR2.out.cell 1 rfl
  have tO2_1 := bO2.out.cell 1 rfl
  have tA2_2 := bA2.out.cell 2 rfl
  have tR2_2 := bR2.out.cell 2 rfl
  have tO2_2 := bO2.out.cell 2 rfl
  have tA2_3 := bA2.out.cell 3 rfl
  have tR2_3 := bR2.out.cell 3 rfl
  have tO2_3 := bO2.out.cell 3 rfl
  have fR2 := bR2.out.unfrozen
  have fO2 := bO2.out.unfrozen
  clear hbc ss2 bA bR bO hz
  have bA : Hid (Box (putCells u2 (w.heap.size + 1 + 1) 2 [.slice aa2 x.vAttrs.length cc2]) w.heap.size [.string x.vTag, .string x.vText, .slice a2 x.vAttrs.length cap2, .slice a3 x.vKids.length cap3] 25) := (bA2.out.other (by omega) _)
  have bR : Hid (Box (putCells u2 (w.heap.size + 1 + 1) 2 [.slice aa2 x.vAttrs.length cc2]) (w.heap.size + 1) [.string ⟨#[]⟩, .string ⟨#[]⟩, .slice none 0 0, .slice none 0 0] 35) := (bR2.out.other (by omega) _)
  have bO : Hid (Box (putCells u2 (w.heap.size + 1 + 1) 2 [.slice aa2 x.vAttrs.length cc2]) (w.heap.size + 1 + 1) [.string x.vTag, .string x.vText, .slice aa2 x.vAttrs.length cc2, .slice none 0 0] 35) := (bO2.out.set _)
  have hz : (putCells u2 (w.heap.size + 1 + 1) 2 [.slice aa2 x.vAttrs.length cc2]).heap.size = u2.heap.size := putCells_size _ _ _ _
  replace hb : Below w.heap.size w (putCells u2 (w.heap.size + 1 + 1) 2 [.slice aa2 x.vAttrs.length cc2]) := putCells_below _ _ _ _ _ _ (by omega) hb
  have ss2n : Hid (SeqAt 2 AttrAt (putCells u2 (w.heap.size + 1 + 1) 2 [.slice aa2 x.vAttrs.length cc2]) (w.heap.size + 3) (.slice aa2 x.vAttrs.length cc2) x.vAttrs) := SeqAt.keep AttrAt_stays ss2'.out (kept_put (by omega))
  clear ss2'
  have ss2' := ss2n
  clear ss2n
  clear bA2 bR2 bO2
  go_wp2_with fail
  refine (hK.out _ lo _ _ (s3'.out.below (MarkAt_stays n) hb) mKids'.out).mono ?_
  rintro e u3 ⟨⟨kk3, rfl, ss3⟩, hbc⟩
  obtain ⟨aa3, cc3, rfl⟩ := ss3.form
  have hz3 : w.heap.size + 3 ≤ u3.heap.size := by have := hbc.size; omega
  replace hb := hb.trans (hbc.mono hb.size)
  have bA3 : Hid (Box u3 w.heap.size [.string x.vTag, .string x.vText, .slice a2 x.vAttrs.length cap2, .slice a3 x.vKids.length cap3] 25) := bA.out.below hbc bA.out.lt
  have bR3 : Hid (Box u3 (w.heap.size + 1) [.string ⟨#[]⟩, .string ⟨#[]⟩, .slice none 0 0, .slice none 0 0] 35) := bR.out.below hbc bR.out.lt
  have bO3 : Hid (Box u3 (w.heap.size + 1 + 1) [.string x.vTag, .string x.vText, .slice aa2 x.vAttrs.length cc2, .slice none 0 0] 35) := bO.out.below hbc bO.out.lt
  have ss2n : Hid (SeqAt 2 AttrAt u3 (w.heap.size + 3) (.slice aa2 x.vAttrs.length cc2) x.vAttrs) := SeqAt.below AttrAt_stays ss2'.out hbc
  clear ss2'
  have ss2' := ss2n
  clear ss2n
  have ss3' : Hid (SeqAt 4 (MarkAt n) u3 (w.heap.size + 3) (.slice aa3 x.vKids.length cc3) x.vKids) := ss3.keep (MarkAt_stays n) (.lower (by omega))
  clear tA2_0 tR2_0 tO2_0 tA2_1 tR2_1 tO2_1 tA2_2 tR2_2 tO2_2 tA2_3 tR2_3 tO2_3 fR2 fO2
  have tA3_0 := bA3.out.cell 0 rfl
  have tR3_0 := bR3.out.cell 0 rfl
  have tO3_0 := bO3.out.cell 0 rfl
  have tA3_1 := bA3.out.cell 1 rfl
  have tR3_1 := bR3.out.cell 1 rfl
  have tO3_1 := bO3.out.cell 1 rfl
  have tA3_2 := bA3.out.cell 2 rfl
  have tR3_2 := bR3.out.cell 2 rfl
  have tO3_2 := bO3.out.cell 2 rfl
  have tA3_3 := bA3.out.cell 3 rfl
  have tR3_3 := bR3.out.cell 3 rfl
  have tO3_3 := bO3.out.cell 3 rfl
  have fR3 := bR3.out.unfrozen
  have fO3 := bO3.out.unfrozen
  clear hbc ss3 bA bR bO hz
  have bA : Hid (Box (putCells u3 (w.heap.size + 1 + 1) 3 [.slice aa3 x.vKids.length cc3]) w.heap.size [.string x.vTag, .string x.vText, .slice a2 x.vAttrs.length cap2, .slice a3 x.vKids.length cap3] 25) := (bA3.out.other (by omega) _)
  have bR : Hid (Box (putCells u3 (w.heap.size + 1 + 1) 3 [.slice aa3 x.vKids.length cc3]) (w.heap.size + 1) [.string ⟨#[]⟩, .string ⟨#[]⟩, .slice none 0 0, .slice none 0 0] 35) := (bR3.out.other (by omega) _)
  have bO : Hid (Box (putCells u3 (w.heap.size + 1 + 1) 3 [.slice aa3 x.vKids.length cc3]) (w.heap.size + 1 + 1) [.string x.vTag, .string x.vText, .slice aa2 x.vAttrs.length cc2, .slice aa3 x.vKids.length cc3] 35) := (bO3.out.set _)
  have hz : (putCells u3 (w.heap.size + 1 + 1) 3 [.slice aa3 x.vKids.length cc3]).heap.size = u3.heap.size := putCells_size _ _ _ _
  replace hb : Below w.heap.size w (putCells u3 (w.heap.size + 1 + 1) 3 [.slice aa3 x.vKids.length cc3]) := putCells_below _ _ _ _ _ _ (by omega) hb
  have ss2n : Hid (SeqAt 2 AttrAt (putCells u3 (w.heap.size + 1 + 1) 3 [.slice aa3 x.vKids.length cc3]) (w.heap.size + 3) (.slice aa2 x.vAttrs.length cc2) x.vAttrs) := SeqAt.keep AttrAt_stays ss2'.out (kept_put (by omega))
  clear ss2'
  have ss2' := ss2n
  clear ss2n
  have ss3n : Hid (SeqAt 4 (MarkAt n) (putCells u3 (w.heap.size + 1 + 1) 3 [.slice aa3 x.vKids.length cc3]) (w.heap.size + 3) (.slice aa3 x.vKids.length cc3) x.vKids) := SeqAt.keep (MarkAt_stays n) ss3'.out (kept_put (by omega))
  clear ss3'
  have ss3' := ss3n
  clear ss3n
  clear bA3 bR3 bO3
  go_wp2_with fail
  refine bodyPost_ret (v := .agg (List.toArray [.string x.vTag, .string x.vText, .slice aa2 x.vAttrs.length cc2, .slice aa3 x.vKids.length cc3])) (by simp [results, Try.results6, go_sem, tR3_0, tR3_1, tR3_2, tR3_3]) rfl ⟨⟨_, rfl, .slice aa2 x.vAttrs.length cc2, .slice aa3 x.vKids.length cc3, rfl, ?s2, ?s3, rTag, rText, trivial⟩, ?bel⟩
  case s2 => exact SeqAt.keep AttrAt_stays (SeqAt.keep AttrAt_stays ss2'.out (kept_put (g := (w.heap.size + 1)) (o := 0) (vs := [.string x.vTag, .string x.vText, .slice aa2 x.vAttrs.length cc2, .slice aa3 x.vKids.length cc3]) (by omega))) (.lower (by omega))
  case s3 => exact SeqAt.keep (MarkAt_stays n) (SeqAt.keep (MarkAt_stays n) ss3'.out (kept_put (g := (w.heap.size + 1)) (o := 0) (vs := [.string x.vTag, .string x.vText, .slice aa2 x.vAttrs.length cc2, .slice aa3 x.vKids.length cc3]) (by omega))) (.lower (by omega))
  case bel => exact putCells_below [.string x.vTag, .string x.vText, .slice aa2 x.vAttrs.length cc2, .slice aa3 x.vKids.length cc3] _ _ _ (w.heap.size + 1) 0 (by omega) hb
set_option maxHeartbeats 1000000 in
theorem toMarkS_of {n : Nat} (hM : Hid (ToM n)) {w : World} {lo : Nat} {k : Value} {xs : List MarkD} (hk : SeqAt 4 (MarkAt n) w lo k xs) (hsm : AllS (MarkD.small n) xs) :
    Calls Try.prog 18 #[k] w fun e w' => (∃ k', e = .returned k' ∧ SeqAt 4 (MarkAt n) w' w.heap.size k' xs) ∧ Below w.heap.size w w' := by
  obtain ⟨a, cap, rfl, hm, hx⟩ := hk
  unfold maxLen at hm
  have hx' : Hid _ := hx
  have hsm' : Hid (AllS (MarkD.small n) xs) := hsm
  have hl := hsm.1
  clear hx hsm
  have hmk := run_newMark xs.length hl w
  go_enter Try.func18, Try.ntmps18
  go_wp2_with fail
  go_loopw [4] (fun i wr => ∃ (j : Nat), j ≤ xs.length ∧ i = .int .i64 j ∧ Hid (Filled 35 4 (MarkAt n) w wr xs w.heap.size j)) (fun i _ => xs.length - (intOf i).toNat)
  case atStart => exact ⟨0, by omega, rfl, Filled.start (newMark_size _)⟩
  case round =>
    obtain ⟨j, hj, rfl, hfill⟩ := hrel
    have hb := hfill.out.1
    by_cases hlt : j < xs.length
    · obtain ⟨b, off, rfl, hlo, hbw, hc⟩ := hx'.out (by omega)
      obtain ⟨cs, hcl, lie, hr⟩ := hc j hlt
      have lie1 := Lie.keep (lo := lo) (lo' := lo) lie (.of_below hb) hlo hbw
      have hr2 := (MarkAt_stays n) _ _ _ lo _ _ (.of_below hb) hr
      have hsj : Hid (MarkD.small n xs[j]) := hsm'.out.2 j hlt
      generalize hX : xs[j] = X at hr2 hsj
      have hX' : Hid _ := hX
      have hr3 : Hid (MarkAt n wr lo cs X) := hr2
      clear hX hr lie hc
      obtain ⟨k2, k3, rfl, s2, s3, rTag, rText, _⟩ := MarkAt.opened hr2
      clear s2 s3 rTag rText
      have z0 := lie1 0 (by simp)
      have z1 := lie1 1 (by simp)
      have z2 := lie1 2 (by simp)
      have z3 := lie1 3 (by simp)
      simp only [List.getElem?_cons_zero, List.getElem?_cons_succ, Nat.add_zero] at z0 z1 z2 z3
      clear lie1 hcl hx' hmk
      go_wp2_with fail
      refine (hM.out _ lo _ _ hr3.out hsj.out).mono ?_
      rintro e w1 ⟨⟨cs1, rfl, ht1⟩, hb1⟩
      have hcl1 : cs1.length = 4 := by obtain ⟨_, _, rfl, _⟩ := MarkAt.opened ht1; rfl
      have ht1' : Hid (MarkAt n w1 wr.heap.size cs1 X) := ht1
      obtain ⟨g2, g3, rfl, t2, t3, rTag, rText, _⟩ := MarkAt.opened ht1
      obtain ⟨b2, d2, rfl⟩ := t2.form
      obtain ⟨b3, d3, rfl⟩ := t3.form
      clear t2 t3 rTag rText z0 z1 z2 z3
      obtain ⟨hv, hf⟩ := hfill.out.facts hlt hb1
      obtain ⟨v0, y0⟩ := hv 0 (by omega)
      have f0 := hf (j * 4 + 0)
      obtain ⟨v1, y1⟩ := hv 1 (by omega)
      have f1 := hf (j * 4 + 1)
      obtain ⟨v2, y2⟩ := hv 2 (by omega)
      have f2 := hf (j * 4 + 2)
      obtain ⟨v3, y3⟩ := hv 3 (by omega)
      have f3 := hf (j * 4 + 3)
      simp only [Nat.add_zero] at y0 f0
      clear hv hf
      go_wp2_with fail
      go_roundw
      case rel =>
        refine ⟨j + 1, by omega, by go_num, ?_⟩
        have hst := Filled.step (MarkAt_stays n) hfill.out hlt (Nat.le_refl _) hb1 hcl1 (by rw [hX'.out]; exact ht1'.out)
        simp only [putCells, Nat.add_assoc, Nat.reduceAdd] at hst
        exact hst
      case measure => simp [intOf]; omega
    · have e : j = xs.length := by omega
      subst e
      go_wp2_with fail
      go_ret
      exact ⟨⟨_, rfl, hfill.out.done (MarkAt_stays n) (Nat.le_refl _) (by unfold maxLen; omega)⟩, hb⟩
theorem toMark_all : ∀ n, ToM n ∧ ToMS n := by
  intro n
  induction n with
  | zero =>
    have h : ToM 0 := fun _ _ _ _ h _ => h.elim
    exact ⟨h, by
      intro w lo k xs hk hsm
      exact toMarkS_of h hk hsm⟩
  | succ n ih =>
    have h : ToM (n + 1) := by
      intro w lo cs x hx hsm
      exact toMark_of ih.2 hx hsm
    exact ⟨h, by
      intro w lo k xs hk hsm
      exact toMarkS_of h hk hsm⟩
end Go.Proofs.Ytlcddndpfhdakaa
