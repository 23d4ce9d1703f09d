/- l8Text of the specification, walked. -/
import Derived.Test.YtlcddndpfhdakaaDoorMarkWithin
import Derived.Test.YtlcddndpfhdakaaDoorMtPlain
import Derived.Test.YtlcddndpfhdakaaDoorEscSpec
import Derived.Deep.QuietTactic
import Derived.BigQuiet
namespace Go.Proofs.YtlcddndpfhdakaaDoor
open Go.RowKit
theorem escL_le (l : List UInt8) : l.length ≤ (escL l).length := by
  induction l with
  | nil => simp [escL]
  | cons c r ih => have := (escB_length c).2; simp only [escL, List.length_append, List.length_cons]; omega
theorem esc_call (s : ByteArray) (hs : s.size ≤ 1048576) : ∃ r : ByteArray, r.data.toList = escL s.data.toList ∧ ∀ w, Calls Tryd.prog 59 #[.string s] w fun e w' => e = .returned (.string r) ∧ w' = w := by
  refine ⟨⟨(escL s.data.toList).toArray⟩, rfl, fun w => ?_⟩
  refine (specEscaped_any s w hs).mono ?_
  rintro e w' ⟨⟨r, rfl, hr⟩, rfl⟩
  exact ⟨by rw [← hr], rfl⟩
def MtS (n : Nat) : Prop := ∀ (w : World) (lo : Nat) (cs : List Value) (x : MarkD), MarkAt n w lo cs x → (mtD n x).length ≤ 1048576 →
  Calls Tryd.prog 29 #[.agg cs.toArray] w fun e w' => (∃ r : ByteArray, e = .returned (.string r) ∧ r.data.toList = mtD n x) ∧ Below w.heap.size w w'
set_option maxRecDepth 100000 in
set_option maxHeartbeats 1000000 in
theorem mtS_of (n : Nat) (hS : Hid (MtS n)) : MtS (n + 1) := by
  intro w lo cs x hx hlen
  obtain ⟨k2, k3, rfl, s2, s3, rTag, rText, _⟩ := hx
  obtain ⟨a2, cap2, rfl, hma, hka⟩ := s2
  obtain ⟨a3, cap3, rfl, hm, hk⟩ := s3
  have hk' : Hid _ := hk
  have hka' : Hid _ := hka
  unfold maxLen at hm hma
  clear hk hka
  have hb0 : Hid (Below w.heap.size w (w.alloc (.cells #[.string x.vTag, .string x.vText, .slice a2 x.vAttrs.length cap2, .slice a3 x.vKids.length cap3] 27))) := (Below.refl _ _).alloc (Nat.le_refl _) _
  have bx0 : Hid (Box (w.alloc (.cells #[.string x.vTag, .string x.vText, .slice a2 x.vAttrs.length cap2, .slice a3 x.vKids.length cap3] 27)) w.heap.size [.string x.vTag, .string x.vText, .slice a2 x.vAttrs.length cap2, .slice a3 x.vKids.length cap3] 27) := Box.new w _ _
  by_cases hT : x.vTag.size = 0
  · have HT : Hid _ := mtD_text (n := n) (x := x) (decide_eq_true hT)
    have hle : Hid (x.vText.size ≤ 1048576) := by show _ ≤ _; rw [HT.out] at hlen; have := escL_le x.vText.data.toList; rw [eb_len] at this; omega
    have eT := em_eq hT
    rw [eT] at hb0 bx0 ⊢
    clear hT hlen eT
    go_enter Tryd.func29, Tryd.ntmps29
    go_wp2_with fail
    refine (specEscaped_any _ _ hle.out).mono ?_
    rintro e w1 ⟨⟨r, rfl, hr⟩, rfl⟩
    have hr' : Hid _ := hr
    clear hr
    go_wp2_with fail
    go_ret
    exact ⟨⟨_, rfl, by rw [HT.out, hr'.out]⟩, hb0.out⟩
  have qT := em_no hT
  have qT2 := em_list hT
  have HT : Hid (mtD (n + 1) x = headM x ++ catK attT x.vAttrs ++ [62] ++ catK (mtD n) x.vKids ++ footM x) := mtD_tag (n := n) (x := x) (decide_eq_false hT)
  have hL : Hid (2 * x.vTag.size + 5 + (catK attT x.vAttrs).length + (catK (mtD n) x.vKids).length ≤ 1048576) := by show _ ≤ _; rw [← mtD_tag_length (decide_eq_false hT)]; exact hlen
  have hd1 : ¬ 9223372036854775807 < 1 + x.vTag.size := by have := hL.out; omega
  clear hT hlen
  go_enter Tryd.func29, Tryd.ntmps29
  go_wp2_with fail
  go_loopw [3, 4] (fun z i wr => ∃ (j : Nat) (acc : ByteArray), j ≤ x.vAttrs.length ∧ i = .int .i64 j ∧ z = .string acc ∧ Hid (Below (w.heap.size + 1) (w.alloc (.cells #[.string x.vTag, .string x.vText, .slice a2 x.vAttrs.length cap2, .slice a3 x.vKids.length cap3] 27)) wr) ∧ Hid (acc.data.toList = headM x ++ catK attT (x.vAttrs.take j))) (fun _ i _ => x.vAttrs.length - (intOf i).toNat)
  case atStart => exact ⟨0, _, by omega, rfl, rfl, Below.refl _ _, by show _ = _; rw [eb_app]; simp [headM, catK]⟩
  case round =>
    obtain ⟨j, acc, hj, rfl, rfl, hb, hacc⟩ := hrel
    have hbw : Below w.heap.size w wr := hb0.out.trans (hb.out.mono (by omega))
    have hD : Hid (∀ q, Below (w.heap.size + 1) (w.alloc (.cells #[.string x.vTag, .string x.vText, .slice a2 x.vAttrs.length cap2, .slice a3 x.vKids.length cap3] 27)) (wr.drewN q)) := fun q => ⟨hb.out.os, hb.out.tape, hb.out.output, hb.out.size, hb.out.block⟩
    have bxr : Hid (Box wr w.heap.size [.string x.vTag, .string x.vText, .slice a2 x.vAttrs.length cap2, .slice a3 x.vKids.length cap3] 27) := bx0.out.below hb.out (by omega)
    have c0 := bxr.out.cell 0 rfl
    have c1 := bxr.out.cell 1 rfl
    have c2 := bxr.out.cell 2 rfl
    have c3 := bxr.out.cell 3 rfl
    have hsz : Hid (acc.size = x.vTag.size + 1 + (catK attT (x.vAttrs.take j)).length) := by show _ = _; rw [← eb_len, hacc.out]; simp [headM_length]
    by_cases hlt : j < x.vAttrs.length
    · obtain ⟨b, off, rfl, hlo, hbb, hc⟩ := hka'.out (by omega)
      obtain ⟨cs, hcl, lie, hr⟩ := hc j hlt
      have lie1 := Lie.keep (lo := lo) (lo' := lo) lie (.of_below hbw) hlo hbb
      have hkl := catK_kid attT x.vAttrs j hlt
      have hct := catK_take attT x.vAttrs j hlt
      generalize x.vAttrs[j] = X at hr hkl hct
      have hct' : Hid (catK attT (x.vAttrs.take (j + 1)) = catK attT (x.vAttrs.take j) ++ attT X) := hct
      obtain ⟨rfl, rName, rValue, _⟩ := hr
      have hal := attT_length X
      have hLo := hL.out
      have hszo := hsz.out
      have hev := escL_le X.vValue.data.toList
      rw [eb_len] at hev
      obtain ⟨r, hr, hcall⟩ := esc_call X.vValue (by omega)
      have hrs : r.size = (escL X.vValue.data.toList).length := by rw [← eb_len, hr]
      have hr' : Hid (r.data.toList = escL X.vValue.data.toList) := hr
      have e1 : ¬ 9223372036854775807 < acc.size + 1 := by omega
      have e2 : ¬ 9223372036854775807 < acc.size + 1 + X.vName.size := by omega
      have e3 : ¬ 9223372036854775807 < acc.size + 1 + X.vName.size + 2 := by omega
      have e4 : ¬ 9223372036854775807 < acc.size + 1 + X.vName.size + 2 + r.size := by omega
      have e5 : ¬ 9223372036854775807 < acc.size + 1 + X.vName.size + 2 + r.size + 1 := by omega
      have z0 := lie1 0 (by simp)
      have z1 := lie1 1 (by simp)
      simp only [List.getElem?_cons_zero, List.getElem?_cons_succ, Nat.add_zero] at z0 z1
      have hlt' : (j : Int) < (x.vAttrs.length : Int) := by omega
      have hj0 : (0 : Int) ≤ (j : Int) := by omega
      have hcall' : Hid (∀ w, Calls Tryd.prog 59 #[.string X.vValue] w fun e w' => e = .returned (.string r) ∧ w' = w) := hcall
      clear lie lie1 hcl hc hka' hkl hct hal hLo hszo hev hr hrs hcall
      go_wp2_with fail
      go_quiet (first | (go_at_call 59; refine Calls.quiet_of_same (hcall'.out _)))
      go_wp2_with fail
      go_roundw
      case rel => exact ⟨j + 1, _, by omega, by go_num, rfl, hD.out _, by show _ = _; simp only [eb_app]; rw [hacc.out, hr'.out, hct'.out]; simp [attT]⟩
      case measure => simp [intOf]; omega
    · have hka := catK_all attT x.vAttrs j hlt
      have hacc2 : Hid (acc.data.toList = headM x ++ catK attT x.vAttrs) := by show _ = _; rw [hacc.out, hka]
      have hsz2 : Hid (acc.size = x.vTag.size + 1 + (catK attT x.vAttrs).length) := by show _ = _; rw [hsz.out, hka]
      have e1 : ¬ 9223372036854775807 < acc.size + 1 := by have := hL.out; have := hsz2.out; omega
      clear hka hka' hacc hsz hD
      generalize wr = w5 at *
      go_wp2_with fail
      go_loopw [3, 5] (fun z i wr => ∃ (j : Nat) (acc : ByteArray), j ≤ x.vKids.length ∧ i = .int .i64 j ∧ z = .string acc ∧ Hid (Below w5.heap.size w5 wr) ∧ Hid (acc.data.toList = headM x ++ catK attT x.vAttrs ++ [62] ++ catK (mtD n) (x.vKids.take j))) (fun _ i _ => x.vKids.length - (intOf i).toNat)
      case atStart => exact ⟨0, _, by omega, rfl, rfl, Below.refl _ _, by show _ = _; rw [eb_app, hacc2.out]; simp [catK]⟩
      case round =>
        obtain ⟨j, acc, hj, rfl, rfl, hbi, hacc⟩ := hrel
        have hbw2 : Below w.heap.size w wr := hbw.trans (hbi.out.mono hbw.size)
        have bx2 : Hid (Box wr w.heap.size [.string x.vTag, .string x.vText, .slice a2 x.vAttrs.length cap2, .slice a3 x.vKids.length cap3] 27) := bxr.out.below hbi.out bxr.out.lt
        clear c0 c1 c2 c3
        have c0 := bx2.out.cell 0 rfl
        have c1 := bx2.out.cell 1 rfl
        have c2 := bx2.out.cell 2 rfl
        have c3 := bx2.out.cell 3 rfl
        have hsz : Hid (acc.size = x.vTag.size + 2 + (catK attT x.vAttrs).length + (catK (mtD n) (x.vKids.take j)).length) := by show _ = _; rw [← eb_len, hacc.out]; simp [headM_length]; omega
        by_cases hlt : j < x.vKids.length
        · obtain ⟨b, off, rfl, hlo, hbb, hc⟩ := hk'.out (by omega)
          obtain ⟨cs, hcl, lie, hr⟩ := hc j hlt
          have lie1 := Lie.keep (lo := lo) (lo' := lo) lie (.of_below hbw2) hlo hbb
          have hr2 := MarkAt.below hr hbw2
          have hkl := catK_kid (mtD n) x.vKids j hlt
          have hct := catK_take (mtD n) x.vKids j hlt
          generalize x.vKids[j] = X at hr2 hkl hct
          have hct' : Hid (catK (mtD n) (x.vKids.take (j + 1)) = catK (mtD n) (x.vKids.take j) ++ mtD n X) := hct
          have hbd : acc.size + (mtD n X).length ≤ 1048576 := by have := hL.out; have := hsz.out; omega
          have hkl' : Hid ((mtD n X).length ≤ 1048576) := by show _ ≤ _; omega
          have hr3 : Hid (MarkAt n wr lo cs X) := hr2
          clear hr lie hkl hct
          obtain ⟨p2, p3, rfl, t2, t3, qTag, qText, _⟩ := MarkAt.opened hr2
          have z0 := lie1 0 (by simp)
          have z1 := lie1 1 (by simp)
          have z2 := lie1 2 (by simp)
          have z3 := lie1 3 (by simp)
          simp only [List.getElem?_cons_zero, List.getElem?_cons_succ, Nat.add_zero] at z0 z1 z2 z3
          clear lie1 hcl t2 t3 qTag qText hk' hc
          go_wp2_with fail
          refine (hS.out _ lo _ X hr3.out hkl'.out).mono ?_
          rintro e w1 ⟨⟨r, rfl, hr⟩, hb1⟩
          have hB : Hid (Below w5.heap.size w5 w1) := hbi.out.trans (hb1.mono hbi.out.size)
          have hrs : r.size = (mtD n X).length := by rw [← eb_len, hr]
          have hd3 : ¬ 9223372036854775807 < acc.size + r.size := by omega
          have hr' : Hid (r.data.toList = mtD n X) := hr
          clear z0 z1 z2 z3 c0 c1 c2 c3 hrs hbd hr
          go_wp2_with fail
          go_roundw
          case rel => exact ⟨j + 1, acc ++ r, by omega, by go_num, rfl, hB, by show _ = _; rw [eb_app, hacc.out, hr'.out, hct'.out]; simp⟩
          case measure => simp [intOf]; omega
        · have hka := catK_all (mtD n) x.vKids j hlt
          have hacc3 : Hid (acc.data.toList = headM x ++ catK attT x.vAttrs ++ [62] ++ catK (mtD n) x.vKids) := by show _ = _; rw [hacc.out, hka]
          have hsz3 : acc.size = x.vTag.size + 2 + (catK attT x.vAttrs).length + (catK (mtD n) x.vKids).length := by rw [hsz.out, hka]
          have hLo := hL.out
          have f1 : ¬ 9223372036854775807 < acc.size + 2 := by omega
          have f2 : ¬ 9223372036854775807 < acc.size + 2 + x.vTag.size := by omega
          have f3 : ¬ 9223372036854775807 < acc.size + 2 + x.vTag.size + 1 := by omega
          clear hka hsz3 hLo
          go_wp2_with fail
          go_ret
          refine ⟨⟨_, rfl, ?_⟩, hbw2⟩
          rw [HT.out, eb_app, eb_app, eb_app, hacc3.out]
          simp [footM]
theorem mtS_all : ∀ n, MtS n := by
  intro n
  induction n with
  | zero => exact fun _ _ _ _ h _ => h.elim
  | succ n ih => exact mtS_of n ih
end Go.Proofs.YtlcddndpfhdakaaDoor
