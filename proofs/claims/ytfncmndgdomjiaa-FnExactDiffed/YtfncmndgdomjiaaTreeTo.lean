/- toTree of the laws: a copy that owns its memory. -/
import Derived.Test.YtfncmndgdomjiaaTreeO
import Derived.Test.YtfncmndgdomjiaaRows
import Derived.WalkKit
namespace Go.Proofs.Ytfncmndgdomjiaa
open Go.RowKit
theorem infoTreeM : ((Try.prog.info? 33).map fun i => (i.zero, i.bytes, i.size)) = some (some (.agg #[.string ByteArray.empty, .slice none 0 0]), 40, 2) := by kernel_rfl
def newTree (n : Nat) : Array Value := madeCells #[.string ByteArray.empty, .slice none 0 0] (n * 2)
theorem newTree_size (n : Nat) : (newTree n).size = n * 2 := size_madeCells _ _
theorem run_newTree (n : Nat) (h : n ≤ 1048576) (w : World) : Sem.run Try.prog (Instr.makeSlice 31 (.int .i64 (n : Int)) (.int .i64 (n : Int))) w = .ok (.slice (some ⟨w.heap.size, 0, none⟩) n n) (w.alloc (.cells (newTree n) 33)) := by
  obtain ⟨i, hi, he⟩ := Option.map_eq_some_iff.1 infoTreeM
  simp only [Prod.mk.injEq] at he
  have := run_make (P := Try.prog) w 31 33 i _ Try.underlying31 hi he.1 .i64 .i64 (n : Int) (n : Int) (by omega) (Int.le_refl _) (by rw [he.2.1]; omega) (by omega)
  rw [he.2.2] at this
  simpa [newTree, Value.cells] using this
def ToT (n : Nat) : Prop := ∀ (w : World) (lo : Nat) (cs : List Value) (x : TD), TreeL n w lo cs x → SmallO n x →
    Calls Try.prog 11 #[.agg cs.toArray] w fun e w' => (∃ (cs' : List Value) (fs : List Nat), e = .returned (.agg cs'.toArray) ∧ TreeO n w' cs' x fs ∧ fs.Nodup ∧ ∀ b ∈ fs, w.heap.size ≤ b) ∧ Below w.heap.size w w'
def ToS (n : Nat) : Prop := ∀ (w : World) (lo : Nat) (k : Value) (xs : List TD), SeqAt 2 (TreeL n) w lo k xs → AllS (SmallO n) xs →
    Calls Try.prog 35 #[k] w fun e w' => (∃ (k' : Value) (fs : List Nat), e = .returned k' ∧ SeqOwn 2 (TreeO n) w' k' xs fs ∧ fs.Nodup ∧ ∀ b ∈ fs, w.heap.size ≤ b) ∧ Below w.heap.size w w'
set_option maxHeartbeats 1000000 in
theorem toS_of (n : Nat) (h9 : ToT n) : ToS n := by
  intro w lo k xs hk hsm
  obtain ⟨a, cap, rfl, hm, hx⟩ := hk
  unfold maxLen at hm
  have h9' : Hid (ToT n) := h9
  have hx' : Hid (0 < xs.length → ∃ b off, a = some ⟨b, off, none⟩ ∧ lo ≤ b ∧ b < w.heap.size ∧ ∀ i, (h : i < xs.length) → ∃ cs, cs.length = 2 ∧ Lie w b (off + i * 2) cs ∧ TreeL n w lo cs xs[i]) := hx
  have hsm' : Hid (AllS (SmallO n) xs) := hsm
  have hl := hsm.1
  clear hx hsm h9
  have hmk := run_newTree xs.length hl w
  go_enter Try.func35, Try.ntmps35
  go_wp2_with fail
  go_loopw [4] (fun i wr => ∃ (j : Nat) (bss : List (List Nat)), j ≤ xs.length ∧ i = .int .i64 j ∧ Hid (FilledO 33 2 (TreeO n) w wr xs w.heap.size j bss)) (fun i _ => xs.length - (intOf i).toNat)
  case atStart => exact ⟨0, [], by omega, rfl, FilledO.start (newTree_size _)⟩
  case round =>
    obtain ⟨j, bss, hj, rfl, hfill⟩ := hrel
    have hb := hfill.out.1
    by_cases hlt : j < xs.length
    · obtain ⟨b, off, rfl, hlo, hbw, hc⟩ := hx'.out (by omega)
      obtain ⟨cs, hcl, lie, hr⟩ := hc j hlt
      have lie1 := Lie.keep (lo := lo) (lo' := lo) lie (.of_below hb) hlo hbw
      have hr2 := hr.below hb
      have hsj : Hid (SmallO n xs[j]) := hsm'.out.2 j hlt
      generalize hX : xs[j] = X at hr2 hsj
      have hX' : Hid (xs[j] = X) := hX
      have hr3 : Hid (TreeL n wr lo cs X) := hr2
      clear hX hr lie hc
      obtain ⟨k1, rfl, s1, _⟩ := hr2.opened
      obtain ⟨a1, cap1, rfl⟩ := s1.form
      clear s1
      have z0 := lie1 0 (by simp)
      have z1 := lie1 1 (by simp)
      simp only [List.getElem?_cons_zero, List.getElem?_cons_succ, Nat.add_zero] at z0 z1
      clear lie1 hcl hx' hmk hr2
      go_wp2_with fail
      refine (h9'.out _ lo _ X hr3.out hsj.out).mono ?_
      rintro e w1 ⟨⟨cs1, fs1, rfl, ht1, nd1, lo1⟩, hb1⟩
      have ht1' : Hid (TreeO n w1 cs1 X fs1) := ht1
      have hi1 : Hid (∀ b ∈ fs1, b < w1.heap.size) := TreeO_lt n _ _ _ _ ht1
      obtain ⟨g1, rfl, t1, _⟩ := ht1.opened
      obtain ⟨b1, d1, rfl⟩ := t1.form
      clear t1 z0 z1 ht1
      obtain ⟨hv, hf⟩ := hfill.out.facts hlt hb1
      obtain ⟨v0, y0⟩ := hv 0 (by omega)
      have f0 := hf (j * 2 + 0)
      obtain ⟨v1, y1⟩ := hv 1 (by omega)
      have f1 := hf (j * 2 + 1)
      simp only [Nat.add_zero] at y0 f0
      clear hv hf
      go_wp2_with fail
      go_roundw
      case rel =>
        refine ⟨j + 1, bss ++ [fs1], by omega, by go_num, ?_⟩
        have hst := FilledO.step (TreeO_stays n) hfill.out hlt (Nat.le_refl _) hb1 rfl (by rw [hX'.out]; exact ht1'.out) lo1 hi1.out nd1
        simp only [putCells] at hst
        exact hst
      case measure => simp [intOf]; omega
    · have e : j = xs.length := by omega
      subst e
      go_wp2_with fail
      go_ret
      obtain ⟨d1, d2⟩ := hfill.out.done (Nat.le_refl _) (by unfold maxLen; omega)
      exact ⟨⟨_, _, rfl, d1, d1.nodup, d2⟩, hb⟩
set_option maxHeartbeats 1000000 in
theorem toT_of (n : Nat) (h22 : ToS n) : ToT (n + 1) := by
  intro w lo cs x hx hsm
  obtain ⟨k1, rfl, s1, rT, _⟩ := hx
  obtain ⟨_, mK⟩ := hsm
  have h22' : Hid (ToS n) := h22
  have s1' : Hid (SeqAt 2 (TreeL n) w lo k1 (kidsOf x)) := s1
  obtain ⟨a1, cap1, rfl⟩ := s1.form
  have mK' : Hid (AllS (SmallO n) (kidsOf x)) := mK
  have rT' : Hid ((strT x).size ≤ maxLen) := rT
  clear s1 mK h22 rT
  have hb : Below w.heap.size w (((w.alloc (.cells (List.toArray [.string (strT x), .slice a1 (kidsOf x).length cap1]) 24)).alloc (.cells (List.toArray [.string ⟨#[]⟩, .slice none 0 0]) 33)).alloc (.cells (List.toArray [.string (strT x), .slice none 0 0]) 33)) := (((Below.refl _ _).alloc (Nat.le_refl _) _).alloc (by simp) _).alloc (by simp; omega) _
  have hz : (((w.alloc (.cells (List.toArray [.string (strT x), .slice a1 (kidsOf x).length cap1]) 24)).alloc (.cells (List.toArray [.string ⟨#[]⟩, .slice none 0 0]) 33)).alloc (.cells (List.toArray [.string (strT x), .slice none 0 0]) 33)).heap.size = w.heap.size + 3 := by simp
  have bR : Hid (Box (((w.alloc (.cells (List.toArray [.string (strT x), .slice a1 (kidsOf x).length cap1]) 24)).alloc (.cells (List.toArray [.string ⟨#[]⟩, .slice none 0 0]) 33)).alloc (.cells (List.toArray [.string (strT x), .slice none 0 0]) 33)) (w.heap.size + 1) [.string ⟨#[]⟩, .slice none 0 0] 33) := by have := (Box.new (w.alloc (.cells (List.toArray [.string (strT x), .slice a1 (kidsOf x).length cap1]) 24)) [.string ⟨#[]⟩, .slice none 0 0] 33).alloc (.cells (List.toArray [.string (strT x), .slice none 0 0]) 33); simpa [Hid] using this
  have bO : Hid (Box (((w.alloc (.cells (List.toArray [.string (strT x), .slice a1 (kidsOf x).length cap1]) 24)).alloc (.cells (List.toArray [.string ⟨#[]⟩, .slice none 0 0]) 33)).alloc (.cells (List.toArray [.string (strT x), .slice none 0 0]) 33)) (w.heap.size + 1 + 1) [.string (strT x), .slice none 0 0] 33) := by have := Box.new ((w.alloc (.cells (List.toArray [.string (strT x), .slice a1 (kidsOf x).length cap1]) 24)).alloc (.cells (List.toArray [.string ⟨#[]⟩, .slice none 0 0]) 33)) [.string (strT x), .slice none 0 0] 33; simpa [Hid] using this
  go_enter Try.func11, Try.ntmps11
  go_wp2_with fail
  refine (h22'.out _ lo _ (kidsOf x) (s1'.out.below (TreeL_stays n) hb) mK'.out).mono ?_
  rintro e u1 ⟨⟨kk1, fs1, rfl, ss1, nd1, lo1⟩, hbc⟩
  obtain ⟨aa1, cc1, rfl⟩ := ss1.form
  have lw1 : Hid (∀ b ∈ fs1, w.heap.size + 3 ≤ b) := fun b q => by have := lo1 b q; omega
  have hz1 : w.heap.size + 3 ≤ u1.heap.size := by have := hbc.size; omega
  have hb1 : Below w.heap.size w u1 := hb.trans (hbc.mono hb.size)
  have bR1 : Hid (Box u1 (w.heap.size + 1) [.string ⟨#[]⟩, .slice none 0 0] 33) := bR.out.below hbc bR.out.lt
  have bO1 : Hid (Box u1 (w.heap.size + 1 + 1) [.string (strT x), .slice none 0 0] 33) := bO.out.below hbc bO.out.lt
  have ss1' : Hid (SeqOwn 2 (TreeO n) u1 (.slice aa1 (kidsOf x).length cc1) (kidsOf x) fs1) := ss1
  have tR0 := bR1.out.cell 0 rfl
  have tR1 := bR1.out.cell 1 rfl
  have tO0 := bO1.out.cell 0 rfl
  have tO1 := bO1.out.cell 1 rfl
  have fR := bR1.out.unfrozen
  have fO := bO1.out.unfrozen
  clear hbc ss1 bR bO hz hb lo1
  go_wp2_with fail
  refine bodyPost_ret (v := .agg (List.toArray [.string (strT x), .slice aa1 (kidsOf x).length cc1])) (by simp [results, Try.results11, go_sem, tR0, tR1]) rfl ⟨⟨_, fs1, rfl, ⟨.slice aa1 (kidsOf x).length cc1, fs1, rfl, ?_, rT'.out, rfl⟩, nd1, ?_⟩, ?_⟩
  · exact SeqOwn.put (TreeO_stays n) (SeqOwn.put (TreeO_stays n) ss1'.out (g := w.heap.size + 1 + 1) (o := 1) (vs := [.slice aa1 (kidsOf x).length cc1]) (fun b q => by have := lw1.out b q; omega)) (g := w.heap.size + 1) (o := 0) (vs := [.string (strT x), .slice aa1 (kidsOf x).length cc1]) (fun b q => by have := lw1.out b q; omega)
  · intro b q
    have := lw1.out b q
    omega
  · exact putCells_below [.string (strT x), .slice aa1 (kidsOf x).length cc1] _ _ _ (w.heap.size + 1) 0 (by omega) (putCells_below [.slice aa1 (kidsOf x).length cc1] _ _ _ (w.heap.size + 1 + 1) 1 (by omega) hb1)
theorem toT_all : ∀ n, ToT n ∧ ToS n := by
  intro n
  induction n with
  | zero => exact ⟨fun _ _ _ _ h _ => h.elim, toS_of 0 (fun _ _ _ _ h _ => h.elim)⟩
  | succ n ih => exact ⟨toT_of n ih.2, toS_of (n + 1) (toT_of n ih.2)⟩
end Go.Proofs.Ytfncmndgdomjiaa
