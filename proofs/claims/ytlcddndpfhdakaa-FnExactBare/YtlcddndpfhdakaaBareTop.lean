/- Bare, of the program and of the specification. -/
import Derived.Test.YtlcddndpfhdakaaBareI
import Derived.Test.YtlcddndpfhdakaaBareS
import Derived.Test.YtlcddndpfhdakaaMarkSpec
namespace Go.Proofs.Ytlcddndpfhdakaa
open Go.RowKit Go.Deep
/-- what Bare tells -/
def bareR (n : Nat) (x : MarkD) : TD × Bool := if okM (mzD n x 30) = true ∧ isT x = false then (bareD n x, true) else (mkT ⟨#[]⟩ [], false)
theorem bareR_yes {n : Nat} {x : MarkD} (h : okM (mzD n x 30) = true ∧ isT x = false) : bareR n x = (bareD n x, true) := by unfold bareR; rw [if_pos h]
theorem bareR_no {n : Nat} {x : MarkD} (h : ¬ (okM (mzD n x 30) = true ∧ isT x = false)) : bareR n x = (mkT ⟨#[]⟩ [], false) := by unfold bareR; rw [if_neg h]
theorem treeO_zero {n : Nat} (h : n ≠ 0) (w : World) : TreeO n w [.string ⟨#[]⟩, .slice none 0 0] (mkT ⟨#[]⟩ []) [] := by
  cases n with
  | zero => exact absurd rfl h
  | succ n => exact ⟨.slice none 0 0, [], rfl, ⟨none, 0, rfl, ⟨Nat.zero_le _, Nat.le_refl _⟩, Or.inl ⟨rfl, rfl⟩⟩, Nat.zero_le _, rfl⟩
set_option maxRecDepth 100000 in
set_option maxHeartbeats 2000000 in
theorem implBare_any {n : Nat} {w : World} {lo : Nat} {cs : List Value} {x : MarkD} (hx : MarkAt n w lo cs x) :
    Calls Try.prog 7 #[.agg cs.toArray] w fun e w' => (∃ (cs' : List Value) (fs : List Nat), e = .returned (.tuple #[.agg cs'.toArray, .bool (bareR n x).2]) ∧ TreeO n w' cs' (bareR n x).1 fs ∧ fs.Nodup ∧ ∀ b ∈ fs, w.heap.size ≤ b) ∧ Below w.heap.size w w' := by
  have hn : Hid (n ≠ 0) := fun e => by subst e; exact hx.elim
  obtain ⟨k2, k3, rfl, s2, s3, _⟩ := MarkAt.opened hx
  obtain ⟨a2, cap2, rfl⟩ := s2.form
  obtain ⟨a3, cap3, rfl⟩ := s3.form
  have hb0 : Hid (Below w.heap.size w ((w.alloc (.cells #[.string x.vTag, .string x.vText, .slice a2 x.vAttrs.length cap2, .slice a3 x.vKids.length cap3] 35)).alloc (.cells #[.string ⟨#[]⟩, .slice none 0 0] 29))) := ((Below.refl _ _).alloc (Nat.le_refl _) _).alloc (by simp) _
  have hx0 : Hid (MarkAt n ((w.alloc (.cells #[.string x.vTag, .string x.vText, .slice a2 x.vAttrs.length cap2, .slice a3 x.vKids.length cap3] 35)).alloc (.cells #[.string ⟨#[]⟩, .slice none 0 0] 29)) lo [.string x.vTag, .string x.vText, .slice a2 x.vAttrs.length cap2, .slice a3 x.vKids.length cap3] x) := MarkAt_stays n _ _ lo _ _ _ (.of_below hb0.out) hx
  have bM : Hid (Box ((w.alloc (.cells #[.string x.vTag, .string x.vText, .slice a2 x.vAttrs.length cap2, .slice a3 x.vKids.length cap3] 35)).alloc (.cells #[.string ⟨#[]⟩, .slice none 0 0] 29)) w.heap.size [.string x.vTag, .string x.vText, .slice a2 x.vAttrs.length cap2, .slice a3 x.vKids.length cap3] 35) := (Box.new w _ _).alloc _
  have bR : Hid (Box ((w.alloc (.cells #[.string x.vTag, .string x.vText, .slice a2 x.vAttrs.length cap2, .slice a3 x.vKids.length cap3] 35)).alloc (.cells #[.string ⟨#[]⟩, .slice none 0 0] 29)) (w.heap.size + 1) resB 29) := by have := Box.new (w.alloc (.cells #[.string x.vTag, .string x.vText, .slice a2 x.vAttrs.length cap2, .slice a3 x.vKids.length cap3] 35)) resB 29; simpa [Hid] using this
  clear hx s2 s3
  go_enter Try.func7, Try.ntmps7
  go_wp2_with fail
  generalize ((w.alloc (.cells #[.string x.vTag, .string x.vText, .slice a2 x.vAttrs.length cap2, .slice a3 x.vKids.length cap3] 35)).alloc (.cells #[.string ⟨#[]⟩, .slice none 0 0] 29)) = w0 at *
  refine (implMarkOk_any hx0.out).mono ?_
  rintro e w1 ⟨rfl, hb1⟩
  have hx1 : Hid (MarkAt n w1 lo [.string x.vTag, .string x.vText, .slice a2 x.vAttrs.length cap2, .slice a3 x.vKids.length cap3] x) := MarkAt.below hx0.out hb1
  have bM1 : Hid (Box w1 w.heap.size [.string x.vTag, .string x.vText, .slice a2 x.vAttrs.length cap2, .slice a3 x.vKids.length cap3] 35) := bM.out.below hb1 bM.out.lt
  have bR1 : Hid (Box w1 (w.heap.size + 1) resB 29) := bR.out.below hb1 bR.out.lt
  have hB1 : Hid (Below w.heap.size w w1) := hb0.out.trans (hb1.mono hb0.out.size)
  clear hx0 bM bR hb0 hb1
  cases hok : okM (mzD n x 30)
  · have hno : Hid (¬ (okM (mzD n x 30) = true ∧ isT x = false)) := fun h => by rw [hok] at h; cases h.1
    clear hok
    have r0 := bR1.out.cell 0 rfl
    have r1 := bR1.out.cell 1 rfl
    have fR := bR1.out.unfrozen
    go_wp2_with fail
    have z1 := Box.set (i := 1) (Box.set (i := 0) bR1.out (.string ⟨#[]⟩)) (.slice none 0 0)
    have z10 := z1.cell 0 rfl
    have z11 := z1.cell 1 rfl
    refine bodyPost_ret (v := .tuple #[.agg #[.string ⟨#[]⟩, .slice none 0 0], .bool false]) (by simp [results, Try.results7, go_sem, z10, z11]) rfl ⟨⟨[.string ⟨#[]⟩, .slice none 0 0], [], by rw [bareR_no hno.out], by rw [bareR_no hno.out]; exact treeO_zero hn.out _, List.nodup_nil, fun b hb => by cases hb⟩, ?_⟩
    exact (hB1.out.setCell (p := ⟨w.heap.size + 1, 0, none⟩) (by show w.heap.size ≤ w.heap.size + 1; omega) _).setCell (p := ⟨w.heap.size + 1, 1, none⟩) (by show w.heap.size ≤ w.heap.size + 1; omega) _
  have hkb : Hid (kidsB n x) := by
    cases hq : mzD n x 30 with
    | none => rw [hq] at hok; cases hok
    | some m => exact kidsB_of n x 30 m (Int.le_refl _) hq
  have c0 := bM1.out.cell 0 rfl
  have c1 := bM1.out.cell 1 rfl
  have c2 := bM1.out.cell 2 rfl
  have c3 := bM1.out.cell 3 rfl
  go_wp2_with fail
  refine (isText_any _ _ _ _ _).mono ?_
  rintro e w2 ⟨rfl, hb2⟩
  have hx2 : Hid (MarkAt n w2 lo [.string x.vTag, .string x.vText, .slice a2 x.vAttrs.length cap2, .slice a3 x.vKids.length cap3] x) := MarkAt.below hx1.out hb2
  have bM2 : Hid (Box w2 w.heap.size [.string x.vTag, .string x.vText, .slice a2 x.vAttrs.length cap2, .slice a3 x.vKids.length cap3] 35) := bM1.out.below hb2 bM1.out.lt
  have bR2 : Hid (Box w2 (w.heap.size + 1) resB 29) := bR1.out.below hb2 bR1.out.lt
  have hB2 : Hid (Below w.heap.size w w2) := hB1.out.trans (hb2.mono hB1.out.size)
  clear hx1 bM1 bR1 hB1 hb2 c0 c1 c2 c3
  have c0 := bM2.out.cell 0 rfl
  have c1 := bM2.out.cell 1 rfl
  have c2 := bM2.out.cell 2 rfl
  have c3 := bM2.out.cell 3 rfl
  cases hT : isT x
  rotate_left
  · have hno : Hid (¬ (okM (mzD n x 30) = true ∧ isT x = false)) := fun h => by rw [hT] at h; cases h.2
    have hdec : decide (x.vTag.size = 0) = true := hT
    clear hok hT
    rw [hdec]
    have r0 := bR2.out.cell 0 rfl
    have r1 := bR2.out.cell 1 rfl
    have fR := bR2.out.unfrozen
    go_wp2_with fail
    have z1 := Box.set (i := 1) (Box.set (i := 0) bR2.out (.string ⟨#[]⟩)) (.slice none 0 0)
    have z10 := z1.cell 0 rfl
    have z11 := z1.cell 1 rfl
    refine bodyPost_ret (v := .tuple #[.agg #[.string ⟨#[]⟩, .slice none 0 0], .bool false]) (by simp [results, Try.results7, go_sem, z10, z11]) rfl ⟨⟨[.string ⟨#[]⟩, .slice none 0 0], [], by rw [bareR_no hno.out], by rw [bareR_no hno.out]; exact treeO_zero hn.out _, List.nodup_nil, fun b hb => by cases hb⟩, ?_⟩
    exact (hB2.out.setCell (p := ⟨w.heap.size + 1, 0, none⟩) (by show w.heap.size ≤ w.heap.size + 1; omega) _).setCell (p := ⟨w.heap.size + 1, 1, none⟩) (by show w.heap.size ≤ w.heap.size + 1; omega) _
  have hdec : decide (x.vTag.size = 0) = false := hT
  rw [hdec]
  have hyes : Hid (okM (mzD n x 30) = true ∧ isT x = false) := ⟨hok, hT⟩
  clear hok hT
  go_wp2_with fail
  refine (brI_all n _ lo _ x hx2.out hkb.out).mono ?_
  rintro e w3 ⟨cs3, fs3, rfl, ho3, hnd3, hlo3, hb3⟩
  have ho3' : Hid (TreeO n w3 cs3 (bareD n x) fs3) := ho3
  have hnd3' : Hid fs3.Nodup := hnd3
  have hlo3' : Hid (∀ b ∈ fs3, w2.heap.size ≤ b) := hlo3
  have bR3 : Hid (Box w3 (w.heap.size + 1) resB 29) := bR2.out.below hb3 bR2.out.lt
  have hlt3 : Hid (w.heap.size + 2 ≤ w2.heap.size) := bR2.out.lt
  have hB3 : Hid (Below w.heap.size w w3) := hB2.out.trans (hb3.mono hB2.out.size)
  obtain ⟨kt, kb, kl, kc, rfl⟩ : ∃ (kt : ByteArray) (kb : Option Addr) (kl kc : Nat), cs3 = [.string kt, .slice kb kl kc] := by obtain ⟨k, e, h3, _⟩ := ho3.opened; obtain ⟨y1, y2, y3⟩ := h3.form; exact ⟨_, y1, _, y2, by rw [e, y3]⟩
  have r0 := bR3.out.cell 0 rfl
  have r1 := bR3.out.cell 1 rfl
  have fR := bR3.out.unfrozen
  clear hb3 c0 c1 c2 c3 ho3 hnd3 hlo3 
  go_wp2_with fail
  have z1 := Box.set (i := 1) (Box.set (i := 0) bR3.out (.string kt)) (.slice kb kl kc)
  have z10 := z1.cell 0 rfl
  have z11 := z1.cell 1 rfl
  refine bodyPost_ret (v := .tuple #[.agg #[.string kt, .slice kb kl kc], .bool true]) (by simp [results, Try.results7, go_sem, z10, z11]) rfl ⟨⟨[.string kt, .slice kb kl kc], fs3, by rw [bareR_yes hyes.out], ?_, hnd3'.out, fun b hb => by have := hlo3'.out b hb; have := hlt3.out; omega⟩, ?_⟩
  · rw [bareR_yes hyes.out]
    exact TreeO_stays n _ _ _ _ _ (fun b hb => by have h1 := hlo3'.out b hb; have h2 := hlt3.out; rw [set_other (by omega), set_other (by omega)]) ho3'.out
  · exact (hB3.out.setCell (p := ⟨w.heap.size + 1, 0, none⟩) (by show w.heap.size ≤ w.heap.size + 1; omega) _).setCell (p := ⟨w.heap.size + 1, 1, none⟩) (by show w.heap.size ≤ w.heap.size + 1; omega) _
set_option maxRecDepth 100000 in
set_option maxHeartbeats 2000000 in
theorem specBare_any {n : Nat} {w : World} {lo : Nat} {cs : List Value} {x : MarkD} (hx : MarkAt n w lo cs x) :
    Calls Try.prog 5 #[.agg cs.toArray] w fun e w' => (∃ (cs' : List Value) (fs : List Nat), e = .returned (.tuple #[.agg cs'.toArray, .bool (bareR n x).2]) ∧ TreeO n w' cs' (bareR n x).1 fs ∧ fs.Nodup ∧ ∀ b ∈ fs, w.heap.size ≤ b) ∧ Below w.heap.size w w' := by
  have hn : Hid (n ≠ 0) := fun e => by subst e; exact hx.elim
  obtain ⟨k2, k3, rfl, s2, s3, _⟩ := MarkAt.opened hx
  obtain ⟨a2, cap2, rfl⟩ := s2.form
  obtain ⟨a3, cap3, rfl⟩ := s3.form
  have hb0 : Hid (Below w.heap.size w ((w.alloc (.cells #[.string x.vTag, .string x.vText, .slice a2 x.vAttrs.length cap2, .slice a3 x.vKids.length cap3] 35)).alloc (.cells #[.string ⟨#[]⟩, .slice none 0 0] 29))) := ((Below.refl _ _).alloc (Nat.le_refl _) _).alloc (by simp) _
  have hx0 : Hid (MarkAt n ((w.alloc (.cells #[.string x.vTag, .string x.vText, .slice a2 x.vAttrs.length cap2, .slice a3 x.vKids.length cap3] 35)).alloc (.cells #[.string ⟨#[]⟩, .slice none 0 0] 29)) lo [.string x.vTag, .string x.vText, .slice a2 x.vAttrs.length cap2, .slice a3 x.vKids.length cap3] x) := MarkAt_stays n _ _ lo _ _ _ (.of_below hb0.out) hx
  have bM : Hid (Box ((w.alloc (.cells #[.string x.vTag, .string x.vText, .slice a2 x.vAttrs.length cap2, .slice a3 x.vKids.length cap3] 35)).alloc (.cells #[.string ⟨#[]⟩, .slice none 0 0] 29)) w.heap.size [.string x.vTag, .string x.vText, .slice a2 x.vAttrs.length cap2, .slice a3 x.vKids.length cap3] 35) := (Box.new w _ _).alloc _
  have bR : Hid (Box ((w.alloc (.cells #[.string x.vTag, .string x.vText, .slice a2 x.vAttrs.length cap2, .slice a3 x.vKids.length cap3] 35)).alloc (.cells #[.string ⟨#[]⟩, .slice none 0 0] 29)) (w.heap.size + 1) resB 29) := by have := Box.new (w.alloc (.cells #[.string x.vTag, .string x.vText, .slice a2 x.vAttrs.length cap2, .slice a3 x.vKids.length cap3] 35)) resB 29; simpa [Hid] using this
  clear hx s2 s3
  go_enter Try.func5, Try.ntmps5
  go_wp2_with fail
  generalize ((w.alloc (.cells #[.string x.vTag, .string x.vText, .slice a2 x.vAttrs.length cap2, .slice a3 x.vKids.length cap3] 35)).alloc (.cells #[.string ⟨#[]⟩, .slice none 0 0] 29)) = w0 at *
  refine (specMarkOk_any hx0.out).mono ?_
  rintro e w1 ⟨rfl, hb1⟩
  have hx1 : Hid (MarkAt n w1 lo [.string x.vTag, .string x.vText, .slice a2 x.vAttrs.length cap2, .slice a3 x.vKids.length cap3] x) := MarkAt.below hx0.out hb1
  have bM1 : Hid (Box w1 w.heap.size [.string x.vTag, .string x.vText, .slice a2 x.vAttrs.length cap2, .slice a3 x.vKids.length cap3] 35) := bM.out.below hb1 bM.out.lt
  have bR1 : Hid (Box w1 (w.heap.size + 1) resB 29) := bR.out.below hb1 bR.out.lt
  have hB1 : Hid (Below w.heap.size w w1) := hb0.out.trans (hb1.mono hb0.out.size)
  clear hx0 bM bR hb0 hb1
  cases hok : okM (mzD n x 30)
  · have hno : Hid (¬ (okM (mzD n x 30) = true ∧ isT x = false)) := fun h => by rw [hok] at h; cases h.1
    clear hok
    have r0 := bR1.out.cell 0 rfl
    have r1 := bR1.out.cell 1 rfl
    have fR := bR1.out.unfrozen
    go_wp2_with fail
    have z1 := Box.set (i := 1) (Box.set (i := 0) bR1.out (.string ⟨#[]⟩)) (.slice none 0 0)
    have z10 := z1.cell 0 rfl
    have z11 := z1.cell 1 rfl
    refine bodyPost_ret (v := .tuple #[.agg #[.string ⟨#[]⟩, .slice none 0 0], .bool false]) (by simp [results, Try.results5, go_sem, z10, z11]) rfl ⟨⟨[.string ⟨#[]⟩, .slice none 0 0], [], by rw [bareR_no hno.out], by rw [bareR_no hno.out]; exact treeO_zero hn.out _, List.nodup_nil, fun b hb => by cases hb⟩, ?_⟩
    exact (hB1.out.setCell (p := ⟨w.heap.size + 1, 0, none⟩) (by show w.heap.size ≤ w.heap.size + 1; omega) _).setCell (p := ⟨w.heap.size + 1, 1, none⟩) (by show w.heap.size ≤ w.heap.size + 1; omega) _
  have hkb : Hid (kidsB n x) := by
    cases hq : mzD n x 30 with
    | none => rw [hq] at hok; cases hok
    | some m => exact kidsB_of n x 30 m (Int.le_refl _) hq
  have c0 := bM1.out.cell 0 rfl
  have c1 := bM1.out.cell 1 rfl
  have c2 := bM1.out.cell 2 rfl
  have c3 := bM1.out.cell 3 rfl
  cases hT : isT x
  rotate_left
  · have hno : Hid (¬ (okM (mzD n x 30) = true ∧ isT x = false)) := fun h => by rw [hT] at h; cases h.2
    have hem := em_eq (of_decide_eq_true hT)
    rw [hem] at c0
    clear hok hT
    have r0 := bR1.out.cell 0 rfl
    have r1 := bR1.out.cell 1 rfl
    have fR := bR1.out.unfrozen
    go_wp2_with fail
    have z1 := Box.set (i := 1) (Box.set (i := 0) bR1.out (.string ⟨#[]⟩)) (.slice none 0 0)
    have z10 := z1.cell 0 rfl
    have z11 := z1.cell 1 rfl
    refine bodyPost_ret (v := .tuple #[.agg #[.string ⟨#[]⟩, .slice none 0 0], .bool false]) (by simp [results, Try.results5, go_sem, z10, z11]) rfl ⟨⟨[.string ⟨#[]⟩, .slice none 0 0], [], by rw [bareR_no hno.out], by rw [bareR_no hno.out]; exact treeO_zero hn.out _, List.nodup_nil, fun b hb => by cases hb⟩, ?_⟩
    exact (hB1.out.setCell (p := ⟨w.heap.size + 1, 0, none⟩) (by show w.heap.size ≤ w.heap.size + 1; omega) _).setCell (p := ⟨w.heap.size + 1, 1, none⟩) (by show w.heap.size ≤ w.heap.size + 1; omega) _
  have hne0 := em_no (of_decide_eq_false hT)
  have hne1 : x.vTag.toList.isEmpty = false := by have e1 := em_list (of_decide_eq_false hT); cases e2 : x.vTag.toList with | nil => exact absurd e2 e1 | cons _ _ => rfl
  have hyes : Hid (okM (mzD n x 30) = true ∧ isT x = false) := ⟨hok, hT⟩
  clear hok hT
  go_wp2_with fail
  refine (brS_all n _ lo _ x hx1.out hkb.out).mono ?_
  rintro e w3 ⟨cs3, fs3, rfl, ho3, hnd3, hlo3, hb3⟩
  have ho3' : Hid (TreeO n w3 cs3 (bareD n x) fs3) := ho3
  have hnd3' : Hid fs3.Nodup := hnd3
  have hlo3' : Hid (∀ b ∈ fs3, w1.heap.size ≤ b) := hlo3
  have bR3 : Hid (Box w3 (w.heap.size + 1) resB 29) := bR1.out.below hb3 bR1.out.lt
  have hlt3 : Hid (w.heap.size + 2 ≤ w1.heap.size) := bR1.out.lt
  have hB3 : Hid (Below w.heap.size w w3) := hB1.out.trans (hb3.mono hB1.out.size)
  obtain ⟨kt, kb, kl, kc, rfl⟩ : ∃ (kt : ByteArray) (kb : Option Addr) (kl kc : Nat), cs3 = [.string kt, .slice kb kl kc] := by obtain ⟨k, e, h3, _⟩ := ho3.opened; obtain ⟨y1, y2, y3⟩ := h3.form; exact ⟨_, y1, _, y2, by rw [e, y3]⟩
  have r0 := bR3.out.cell 0 rfl
  have r1 := bR3.out.cell 1 rfl
  have fR := bR3.out.unfrozen
  clear hb3 c0 c1 c2 c3 ho3 hnd3 hlo3 hne0 hne1
  go_wp2_with fail
  have z1 := Box.set (i := 1) (Box.set (i := 0) bR3.out (.string kt)) (.slice kb kl kc)
  have z10 := z1.cell 0 rfl
  have z11 := z1.cell 1 rfl
  refine bodyPost_ret (v := .tuple #[.agg #[.string kt, .slice kb kl kc], .bool true]) (by simp [results, Try.results5, go_sem, z10, z11]) rfl ⟨⟨[.string kt, .slice kb kl kc], fs3, by rw [bareR_yes hyes.out], ?_, hnd3'.out, fun b hb => by have := hlo3'.out b hb; have := hlt3.out; omega⟩, ?_⟩
  · rw [bareR_yes hyes.out]
    exact TreeO_stays n _ _ _ _ _ (fun b hb => by have h1 := hlo3'.out b hb; have h2 := hlt3.out; rw [set_other (by omega), set_other (by omega)]) ho3'.out
  · exact (hB3.out.setCell (p := ⟨w.heap.size + 1, 0, none⟩) (by show w.heap.size ≤ w.heap.size + 1; omega) _).setCell (p := ⟨w.heap.size + 1, 1, none⟩) (by show w.heap.size ≤ w.heap.size + 1; omega) _
end Go.Proofs.Ytlcddndpfhdakaa
