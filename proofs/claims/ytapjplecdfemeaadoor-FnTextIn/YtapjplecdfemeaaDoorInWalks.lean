/- l8In of the specification and appendTexts of the program, walked. -/
import Derived.Test.YtapjplecdfemeaaDoorMarkWithin
import Derived.Test.YtapjplecdfemeaaDoorInPlain
import Derived.Test.YtapjplecdfemeaaDoorAppBytes
import Derived.Test.YtapjplecdfemeaaDoorBoxGoes
import Derived.Laws.IdiomStrings
namespace Go.Proofs.YtapjplecdfemeaaDoor
open Go.RowKit
def InS (n : Nat) : Prop := ∀ (w : World) (lo : Nat) (cs : List Value) (x : MarkD), MarkAt n w lo cs x → (inD n x).length ≤ 1048576 →
  Calls Tryd.prog 50 #[.agg cs.toArray] w fun e w' => (∃ r : ByteArray, e = .returned (.string r) ∧ r.data.toList = inD n x) ∧ Below w.heap.size w w'
set_option maxHeartbeats 1000000 in
theorem inS_of (n : Nat) (hS : Hid (InS n)) : InS (n + 1) := by
  intro w lo cs x hx hlen
  obtain ⟨k2, k3, rfl, s2, s3, rTag, rText, _⟩ := hx
  obtain ⟨a3, cap3, rfl, hm, hk⟩ := s3
  have hk' : Hid _ := hk
  unfold maxLen at hm
  clear hk s2
  have hb0 : Below w.heap.size w (w.alloc (.cells #[.string x.vTag, .string x.vText, k2, .slice a3 x.vKids.length cap3] 31)) := (Below.refl _ _).alloc (Nat.le_refl _) _
  have bx0 : Hid (Box (w.alloc (.cells #[.string x.vTag, .string x.vText, k2, .slice a3 x.vKids.length cap3] 31)) w.heap.size [.string x.vTag, .string x.vText, k2, .slice a3 x.vKids.length cap3] 31) := Box.new w _ _
  have hlen' : Hid (x.vText.size + (catK (inD n) x.vKids).length ≤ 1048576) := by show _ ≤ _; rw [← inD_length]; exact hlen
  clear hlen
  go_enter Tryd.func50, Tryd.ntmps50
  go_wp2_with fail
  go_loopw [3, 4] (fun z i wr => ∃ (j : Nat) (acc : ByteArray), j ≤ x.vKids.length ∧ i = .int .i64 j ∧ z = .string acc ∧ Below (w.heap.size + 1) (w.alloc (.cells #[.string x.vTag, .string x.vText, k2, .slice a3 x.vKids.length cap3] 31)) wr ∧
      Hid (acc.data.toList = x.vText.data.toList ++ catK (inD n) (x.vKids.take j))) (fun _ i _ => x.vKids.length - (intOf i).toNat)
  case atStart => exact ⟨0, _, by omega, rfl, rfl, Below.refl _ _, by show _ = _; simp [catK]⟩
  case round =>
    obtain ⟨j, acc, hj, rfl, rfl, hb, hacc⟩ := hrel
    have bxr : Hid (Box wr w.heap.size [.string x.vTag, .string x.vText, k2, .slice a3 x.vKids.length cap3] 31) := bx0.out.below hb (by omega)
    have c3 := bxr.out.cell 3 rfl
    have hbw : Below w.heap.size w wr := hb0.trans (hb.mono (by omega))
    have hsz : Hid (acc.size = x.vText.size + (catK (inD n) (x.vKids.take j)).length) := by show _ = _; rw [← eb_len, hacc.out]; simp
    by_cases hlt : j < x.vKids.length
    · obtain ⟨b, off, rfl, hlo, hbb, hc⟩ := hk'.out (by omega)
      obtain ⟨cs, hcl, lie, hr⟩ := hc j hlt
      have lie1 := Lie.keep (lo := lo) (lo' := lo) lie (.of_below hbw) hlo hbb
      have hr2 := MarkAt.below hr hbw
      have hkl := catK_kid (inD n) x.vKids j hlt
      have hct := catK_take (inD n) x.vKids j hlt
      generalize x.vKids[j] = X at hr2 hkl hct
      have hct' : Hid _ := hct
      have hkl' : Hid ((inD n X).length ≤ 1048576) := by show _ ≤ _; have := hlen'.out; omega
      have hbd : acc.size + (inD n X).length ≤ 1048576 := by have := hlen'.out; have := hsz.out; omega
      have hr3 : Hid (MarkAt n wr lo cs X) := hr2
      clear hr lie hkl hct
      obtain ⟨p2, p3, rfl, t2, t3, qTag, qText, _⟩ := MarkAt.opened hr2
      have z0 := lie1 0 (by simp)
      have z1 := lie1 1 (by simp)
      have z2 := lie1 2 (by simp)
      have z3 := lie1 3 (by simp)
      simp only [List.getElem?_cons_zero, List.getElem?_cons_succ, Nat.add_zero] at z0 z1 z2 z3
      clear lie1 hcl t2 t3 qTag qText hk' hc
      go_wp2_with fail
      refine (hS.out _ lo _ X hr3.out hkl'.out).mono ?_
      rintro e w1 ⟨⟨r, rfl, hr⟩, hb1⟩
      have hB : Below (w.heap.size + 1) (w.alloc (.cells #[.string x.vTag, .string x.vText, k2, .slice (some ⟨b, off, none⟩) x.vKids.length cap3] 31)) w1 := hb.trans (hb1.mono (by have := hb.size; simpa using this))
      have hrs : r.size = (inD n X).length := by rw [← eb_len, hr]
      have hd3 : ¬ 9223372036854775807 < acc.size + r.size := by omega
      have hr' : Hid _ := hr
      clear z0 z1 z2 z3 c3 hrs hbd hr
      go_wp2_with fail
      go_roundw
      case rel => exact ⟨j + 1, acc ++ r, by omega, by go_num, rfl, hB, by show _ = _; rw [eb_app, hacc.out, hr'.out, hct'.out, List.append_assoc]⟩
      case measure => simp [intOf]; omega
    · have hka := catK_all (inD n) x.vKids j hlt
      have hka' : Hid _ := hka
      clear hka
      go_wp2_with fail
      go_ret
      refine ⟨⟨_, rfl, ?_⟩, hbw⟩
      rw [hacc.out, hka'.out]
      rfl
theorem inS_all : ∀ n, InS n := by
  intro n
  induction n with
  | zero => exact fun _ _ _ _ h _ => h.elim
  | succ n ih => exact inS_of n ih
def ApI (n : Nat) : Prop := ∀ (w0 w : World) (lo : Nat) (v : Value) (cs : List Value) (x : MarkD) (l : List UInt8), MarkAt n w0 lo cs x → Below w0.heap.size w0 w → OwnB w w0.heap.size v l → l.length + (inD n x).length ≤ 1048576 →
  Calls Tryd.prog 49 #[v, .agg cs.toArray] w fun e w' => ∃ v', e = .returned v' ∧ OwnB w' w0.heap.size v' (l ++ inD n x) ∧ Goes w v w' v'
set_option maxHeartbeats 1000000 in
theorem apI_of (n : Nat) (hS : Hid (ApI n)) : ApI (n + 1) := by
  intro w0 w lo v cs x l hx hbw ho hlen
  obtain ⟨k2, k3, rfl, s2, s3, rTag, rText, _⟩ := hx
  obtain ⟨a2, cap2, rfl⟩ := s2.form
  obtain ⟨a3, cap3, rfl, hm, hk⟩ := s3
  have hk' : Hid _ := hk
  unfold maxLen at hm
  clear hk s2
  have hlen' : Hid (l.length + (x.vText.size + (catK (inD n) x.vKids).length) ≤ 1048576) := by show _ ≤ _; rw [← inD_length]; exact hlen
  have ho' : Hid (OwnB w w0.heap.size v l) := ho
  have hbw' : Hid (Below w0.heap.size w0 w) := hbw
  have hbz : w0.heap.size ≤ w.heap.size := hbw.size
  clear hlen ho hbw
  go_enter Tryd.func49, Tryd.ntmps49
  go_wp2_with (at_builtin; refine wpList_append_at rfl _ _ rfl w0.heap.size v l _ rfl rfl (ho'.out.alloc _) ?c2 ?c3 ?_)
  case c2 => have := hlen'.out; omega
  case c3 => simp; omega
  intro v1 w1 ho1 hg1
  have ho1' : Hid (OwnB w1 w0.heap.size v1 (l ++ x.vText.data.toList)) := ho1
  have hg1' : Hid (Goes (w.alloc (.cells #[.string x.vTag, .string x.vText, .slice a2 x.vAttrs.length cap2, .slice a3 x.vKids.length cap3] 31)) v w1 v1) := hg1
  have bx1 : Hid (Box w1 w.heap.size [.string x.vTag, .string x.vText, .slice a2 x.vAttrs.length cap2, .slice a3 x.vKids.length cap3] 31) := box_goes ho'.out hg1
  have c3 := bx1.out.cell 3 rfl
  clear ho1 hg1
  go_wp2_with fail
  go_loopw [0, 14] (fun z i wr => ∃ (j : Nat), j ≤ x.vKids.length ∧ i = .int .i64 j ∧ Hid (OwnB wr w0.heap.size z (l ++ x.vText.data.toList ++ catK (inD n) (x.vKids.take j))) ∧ Hid (Goes (w.alloc (.cells #[.string x.vTag, .string x.vText, .slice a2 x.vAttrs.length cap2, .slice a3 x.vKids.length cap3] 31)) v wr z)) (fun _ i _ => x.vKids.length - (intOf i).toNat)
  case atStart => exact ⟨0, by omega, rfl, by show OwnB _ _ _ _; rw [List.take_zero, catK, List.append_nil]; exact ho1'.out, hg1'⟩
  case round =>
    obtain ⟨j, hj, rfl, hoj, hgj⟩ := hrel
    have hbj : Below w0.heap.size w0 wr := Goes.below hgj.out (hbw'.out.alloc hbz _) (ho'.out.alloc _)
    have hl := hlen'.out
    by_cases hlt : j < x.vKids.length
    · obtain ⟨b, off, rfl, hlo, hbb, hc⟩ := hk'.out (by omega)
      obtain ⟨cs, hcl, lie, hr⟩ := hc j hlt
      have lie1 := Lie.keep (lo := lo) (lo' := lo) lie (.of_below hbj) hlo hbb
      have hkl := catK_kid (inD n) x.vKids j hlt
      have hct := catK_take (inD n) x.vKids j hlt
      generalize x.vKids[j] = X at hr hkl hct
      have hct' : Hid (catK (inD n) (x.vKids.take (j + 1)) = catK (inD n) (x.vKids.take j) ++ inD n X) := hct
      have hr3 : Hid (MarkAt n w0 lo cs X) := hr
      have hbd : Hid ((l ++ x.vText.data.toList ++ catK (inD n) (x.vKids.take j)).length + (inD n X).length ≤ 1048576) := by show _ ≤ _; simp only [List.length_append, eb_len]; omega
      obtain ⟨p2, p3, rfl, t2, t3, qTag, qText, _⟩ := MarkAt.opened hr
      obtain ⟨b2, d2, rfl⟩ := t2.form
      obtain ⟨b3, d3, rfl⟩ := t3.form
      have z0 := lie1 0 (by simp)
      have z1 := lie1 1 (by simp)
      have z2 := lie1 2 (by simp)
      have z3 := lie1 3 (by simp)
      simp only [List.getElem?_cons_zero, List.getElem?_cons_succ, Nat.add_zero] at z0 z1 z2 z3
      have hbz1 : w0.heap.size ≤ wr.heap.size := hbj.size
      have hbj' : Hid (Below w0.heap.size w0 wr) := hbj
      clear lie1 hcl t2 t3 qTag qText hk' hc c3 hr lie hkl hct hl hbj
      go_wp2_with fail
      refine (hS.out w0 _ lo _ _ X _ hr3.out (hbj'.out.alloc hbz1 _) (hoj.out.alloc _) hbd.out).mono ?_
      rintro e w2 ⟨v2, rfl, ho2, hg2⟩
      have ho2' : Hid (OwnB w2 w0.heap.size v2 (l ++ x.vText.data.toList ++ catK (inD n) (x.vKids.take j) ++ inD n X)) := ho2
      have hg2' : Hid (Goes (wr.alloc (.cells #[.string X.vTag, .string X.vText, .slice b2 X.vAttrs.length d2, .slice b3 X.vKids.length d3] 31)) u0 w2 v2) := hg2
      clear ho2 hg2 z0 z1 z2 z3
      go_wp2_with fail
      go_roundw
      case rel => exact ⟨j + 1, by omega, by go_num, by show OwnB _ _ _ _; rw [hct'.out, ← List.append_assoc]; exact ho2'.out, (Goes.alloc hgj.out _).trans hg2'.out⟩
      case measure => simp [intOf]; omega
    · have hka := catK_all (inD n) x.vKids j hlt
      have hka' : Hid _ := hka
      clear hka c3 hl
      go_wp2_with fail
      go_ret
      refine ⟨_, rfl, ?_, ((Goes.refl w v).alloc _).trans hgj.out⟩
      have := hoj.out
      rw [hka'.out] at this
      show OwnB _ _ _ (l ++ (x.vText.data.toList ++ catK (inD n) x.vKids))
      rw [← List.append_assoc]; exact this
theorem apI_all : ∀ n, ApI n := by
  intro n
  induction n with
  | zero => exact fun _ _ _ _ _ _ _ h _ _ _ => h.elim
  | succ n ih => exact apI_of n ih
/-- the texts in a mark if it is right; else no byte -/
def inR (n : Nat) (x : MarkD) : ByteArray := if okM (mzD n x 30) = true then ⟨(inD n x).toArray⟩ else ⟨#[]⟩
theorem inR_yes {n : Nat} {x : MarkD} (h : okM (mzD n x 30) = true) : inR n x = ⟨(inD n x).toArray⟩ := by simp [inR, h]
theorem inR_no {n : Nat} {x : MarkD} (h : okM (mzD n x 30) = false) : inR n x = ⟨#[]⟩ := by simp [inR, h]
theorem ok_in {n : Nat} {x : MarkD} (h : okM (mzD n x 30) = true) : (inD n x).length ≤ 1048576 := by
  cases hq : mzD n x 30 with
  | none => rw [hq] at h; cases h
  | some q =>
    have h1 := mzD_in _ _ _ _ hq
    have h2 := mzD_range _ _ _ _ hq
    omega
end Go.Proofs.YtapjplecdfemeaaDoor
