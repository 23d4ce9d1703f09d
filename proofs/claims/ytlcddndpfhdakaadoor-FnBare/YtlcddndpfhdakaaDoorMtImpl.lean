/- appendMark of the program, walked. -/
import Derived.Test.YtlcddndpfhdakaaDoorSeq
import Derived.Test.YtlcddndpfhdakaaDoorAppBytes
import Derived.Test.YtlcddndpfhdakaaDoorMtSpec
import Derived.Test.YtlcddndpfhdakaaDoorEscAp
namespace Go.Proofs.YtlcddndpfhdakaaDoor
open Go.RowKit
/-- the box that the call laid is as it was -/
theorem box_goes {w wr : World} {v vj : Value} {cs : List Value} {T : TypeId} {base : Nat} {l : List UInt8} (ho : OwnB w base v l) (h : Goes (w.alloc (.cells cs.toArray T)) v wr vj) : Box wr w.heap.size cs T := by
  refine (h.1.block w.heap.size (by simp) ?_).trans (MapKept.heap_alloc w _).1
  intro hh
  have := ho.lt hh.symm
  omega
def ApM (n : Nat) : Prop := ∀ (w0 w : World) (lo : Nat) (v : Value) (cs : List Value) (x : MarkD) (l : List UInt8), MarkAt n w0 lo cs x → Signs w0 → Below w0.heap.size w0 w → OwnB w w0.heap.size v l → l.length + (mtD n x).length ≤ 1048576 →
  Calls Tryd.prog 26 #[v, .agg cs.toArray] w fun e w' => ∃ v', e = .returned v' ∧ OwnB w' w0.heap.size v' (l ++ mtD n x) ∧ Goes w v w' v'
set_option maxRecDepth 100000 in
set_option maxHeartbeats 1000000 in
theorem apM_of (n : Nat) (hS : Hid (ApM n)) : ApM (n + 1) := by
  intro w0 w lo v cs x l hx hsg hbw ho hlen
  obtain ⟨k2, k3, rfl, s2, s3, rTag, rText, _⟩ := hx
  obtain ⟨a2, cap2, rfl, hma, hka⟩ := s2
  obtain ⟨a3, cap3, rfl, hm, hk⟩ := s3
  have hk' : Hid _ := hk
  have hka' : Hid _ := hka
  unfold maxLen at hm hma
  clear hk hka
  have hsg' : Hid (Signs w0) := hsg
  have ho' : Hid (OwnB w w0.heap.size v l) := ho
  have hbw' : Hid (Below w0.heap.size w0 w) := hbw
  have hbz : w0.heap.size ≤ w.heap.size := hbw.size
  have hb0 : Hid (Below w0.heap.size w0 (w.alloc (.cells #[.string x.vTag, .string x.vText, .slice a2 x.vAttrs.length cap2, .slice a3 x.vKids.length cap3] 27))) := hbw.alloc hbw.size _
  have bx0 : Hid (Box (w.alloc (.cells #[.string x.vTag, .string x.vText, .slice a2 x.vAttrs.length cap2, .slice a3 x.vKids.length cap3] 27)) w.heap.size [.string x.vTag, .string x.vText, .slice a2 x.vAttrs.length cap2, .slice a3 x.vKids.length cap3] 27) := Box.new w _ _
  clear ho hbw hsg
  go_enter Tryd.func26, Tryd.ntmps26
  go_wp2_with fail
  refine (isText_any _ _ _ _ _).mono ?_
  rintro e w1 ⟨rfl, hb1⟩
  have bx1 : Hid (Box w1 w.heap.size [.string x.vTag, .string x.vText, .slice a2 x.vAttrs.length cap2, .slice a3 x.vKids.length cap3] 27) := bx0.out.below hb1 bx0.out.lt
  have hB1 : Hid (Below w0.heap.size w0 w1) := hb0.out.trans (hb1.mono hb0.out.size)
  have ho1 : Hid (OwnB w1 w0.heap.size v l) := OwnB.below (OwnB.alloc ho'.out _) hb1
  have hg1 : Hid (Goes (w.alloc (.cells #[.string x.vTag, .string x.vText, .slice a2 x.vAttrs.length cap2, .slice a3 x.vKids.length cap3] 27)) v w1 v) := Goes.after (Goes.refl _ _) hb1
  have c0 := bx1.out.cell 0 rfl
  have c1 := bx1.out.cell 1 rfl
  have c2 := bx1.out.cell 2 rfl
  have c3 := bx1.out.cell 3 rfl
  have hz1 := hB1.out.size
  clear hb1 bx0
  by_cases hT : x.vTag.size = 0
  · have HT : Hid _ := mtD_text (n := n) (x := x) (decide_eq_true hT)
    have hle : Hid (l.length + 6 * x.vText.size ≤ 16777216) := by show _ ≤ _; rw [HT.out] at hlen; have := escL_le x.vText.data.toList; rw [eb_len] at this; omega
    rw [decide_eq_true hT]
    clear hT hlen
    go_wp2_with fail
    refine (appendEscaped_any w0 w1 _ _ l hsg'.out hB1.out ho1.out hle.out).mono ?_
    rintro e w2 ⟨v2, rfl, ho2, hg2⟩
    have ho2' : Hid (OwnB w2 w0.heap.size v2 (l ++ escL x.vText.data.toList)) := ho2
    have hg2' : Hid (Goes w1 v w2 v2) := hg2
    clear ho2 hg2
    go_wp2_with fail
    go_ret
    exact ⟨_, rfl, by rw [HT.out]; exact ho2'.out, ((Goes.refl w v).alloc _).trans (hg1.out.trans hg2'.out)⟩
  have HT : Hid (mtD (n + 1) x = headM x ++ catK attT x.vAttrs ++ [62] ++ catK (mtD n) x.vKids ++ footM x) := mtD_tag (n := n) (x := x) (decide_eq_false hT)
  have hL : Hid (l.length + (2 * x.vTag.size + 5 + (catK attT x.vAttrs).length + (catK (mtD n) x.vKids).length) ≤ 1048576) := by show _ ≤ _; rw [← mtD_tag_length (decide_eq_false hT)]; exact hlen
  have hd1 : ¬ 9223372036854775807 < 1 + x.vTag.size := by have := hL.out; omega
  rw [decide_eq_false hT]
  clear hT hlen
  go_wp2_with (at_builtin; refine wpList_append_at rfl _ _ rfl w0.heap.size v l _ rfl rfl ho1.out ?c2 ?c3 ?_)
  case c2 => have := hL.out; rw [ByteArray.size_append]; show _ + (1 + _) ≤ _; omega
  case c3 => omega
  intro v2 w2 ho2 hg2
  have ho2' : Hid (OwnB w2 w0.heap.size v2 (l ++ headM x)) := ho2
  have hg2' : Hid (Goes (w.alloc (.cells #[.string x.vTag, .string x.vText, .slice a2 x.vAttrs.length cap2, .slice a3 x.vKids.length cap3] 27)) v w2 v2) := hg1.out.trans hg2
  have bx2 : Hid (Box w2 w.heap.size [.string x.vTag, .string x.vText, .slice a2 x.vAttrs.length cap2, .slice a3 x.vKids.length cap3] 27) := box_goes ho'.out hg2'.out
  clear ho2 hg2 c0 c1 c2 c3 bx1 hB1 ho1 hg1
  have c0 := bx2.out.cell 0 rfl
  have c1 := bx2.out.cell 1 rfl
  have c2 := bx2.out.cell 2 rfl
  have c3 := bx2.out.cell 3 rfl
  go_wp2_with fail
  go_loopw [0, 23] (fun z i wr => ∃ (j : Nat), j ≤ x.vAttrs.length ∧ i = .int .i64 j ∧ Hid (OwnB wr w0.heap.size z (l ++ headM x ++ catK attT (x.vAttrs.take j))) ∧ Hid (Goes (w.alloc (.cells #[.string x.vTag, .string x.vText, .slice a2 x.vAttrs.length cap2, .slice a3 x.vKids.length cap3] 27)) v wr z)) (fun _ i _ => x.vAttrs.length - (intOf i).toNat)
  case atStart => exact ⟨0, by omega, rfl, by show OwnB _ _ _ _; rw [List.take_zero, catK, List.append_nil]; exact ho2'.out, hg2'⟩
  case round =>
    obtain ⟨j, hj, rfl, hoj, hgj⟩ := hrel
    have hbj : Below w0.heap.size w0 wr := Goes.below hgj.out hb0.out (OwnB.alloc ho'.out _)
    have hzj := hbj.size
    by_cases hlt : j < x.vAttrs.length
    · obtain ⟨b, off, rfl, hlo, hbb, hc⟩ := hka'.out (by omega)
      obtain ⟨cs, hcl, lie, hr⟩ := hc j hlt
      have lie1 := Lie.keep (lo := lo) (lo' := lo) lie (.of_below hbj) hlo hbb
      have hkl := catK_kid attT x.vAttrs j hlt
      have hct := catK_take attT x.vAttrs j hlt
      generalize x.vAttrs[j] = X at hr hkl hct
      have hct' : Hid (catK attT (x.vAttrs.take (j + 1)) = catK attT (x.vAttrs.take j) ++ attT X) := hct
      obtain ⟨rfl, rName, rValue, _⟩ := hr
      have hal := attT_length X
      have hLo := hL.out
      have hev := escL_le X.vValue.data.toList
      rw [eb_len] at hev
      have hhl := headM_length x
      have hbd : Hid ((l ++ headM x ++ catK attT (x.vAttrs.take j)).length + (X.vName.size + 4 + (escL X.vValue.data.toList).length) ≤ 1048576 ∧ X.vValue.size ≤ (escL X.vValue.data.toList).length) := by
        refine ⟨?_, hev⟩
        simp only [List.length_append]; omega
      have e1 : ¬ 9223372036854775807 < 1 + X.vName.size := by omega
      have e2 : ¬ 9223372036854775807 < 1 + X.vName.size + 2 := by omega
      have z0 := lie1 0 (by simp)
      have z1 := lie1 1 (by simp)
      simp only [List.getElem?_cons_zero, List.getElem?_cons_succ, Nat.add_zero] at z0 z1
      have hbj' : Hid (Below w0.heap.size w0 wr) := hbj
      clear lie lie1 hcl hc hka' hkl hct hal hLo hev hhl hbj
      go_wp2_with (at_builtin; refine wpList_append_at rfl _ _ rfl w0.heap.size u0 (l ++ headM x ++ catK attT (x.vAttrs.take j)) _ rfl rfl (OwnB.alloc hoj.out _) ?c2 ?c3 ?_)
      case c2 => have := hbd.out.1; rw [ByteArray.size_append, ByteArray.size_append]; show _ + (1 + _ + 2) ≤ _; omega
      case c3 => simp; omega
      intro v3 w3 ho3 hg3
      have ho3' : Hid (OwnB w3 w0.heap.size v3 ((l ++ headM x ++ catK attT (x.vAttrs.take j)) ++ ([32] ++ X.vName.data.toList ++ [61, 34]))) := by
        show OwnB _ _ _ _
        have e : ∀ q, q = (l ++ headM x ++ catK attT (x.vAttrs.take j)) ++ ([32] ++ X.vName.data.toList ++ [61, 34]) → OwnB w3 w0.heap.size v3 q → OwnB w3 w0.heap.size v3 ((l ++ headM x ++ catK attT (x.vAttrs.take j)) ++ ([32] ++ X.vName.data.toList ++ [61, 34])) := fun q h1 h2 => h1 ▸ h2
        exact e _ (by simp) ho3
      have hg3' : Hid (Goes (wr.alloc (.cells #[.string X.vName, .string X.vValue] 70)) u0 w3 v3) := hg3
      have hB3 : Hid (Below w0.heap.size w0 w3) := Goes.below hg3 (hbj'.out.alloc hzj _) (OwnB.alloc hoj.out _)
      have ba3 : Hid (Box w3 wr.heap.size [.string X.vName, .string X.vValue] 70) := box_goes hoj.out hg3
      have y0 := ba3.out.cell 0 rfl
      have y1 := ba3.out.cell 1 rfl
      have hz3 := hB3.out.size
      clear ho3 hg3 z0 z1
      go_wp2_with fail
      refine (appendEscaped_any w0 w3 _ _ _ hsg'.out hB3.out ho3'.out (by have := hbd.out; simp only [List.length_append, List.length_cons, List.length_nil, eb_len] at this ⊢; omega)).mono ?_
      rintro e w4 ⟨v4, rfl, ho4, hg4⟩
      have ho4' : Hid (OwnB w4 w0.heap.size v4 ((l ++ headM x ++ catK attT (x.vAttrs.take j)) ++ ([32] ++ X.vName.data.toList ++ [61, 34]) ++ escL X.vValue.data.toList)) := ho4
      have hg4' : Hid (Goes w3 v3 w4 v4) := hg4
      have hB4 : Hid (Below w0.heap.size w0 w4) := Goes.below hg4 hB3.out ho3'.out
      have hz4 := hB4.out.size
      clear ho4 hg4 y0 y1
      go_wp2_with (at_builtin; refine wpList_append_one rfl _ _ rfl w0.heap.size v4 ((l ++ headM x ++ catK attT (x.vAttrs.take j)) ++ ([32] ++ X.vName.data.toList ++ [61, 34]) ++ escL X.vValue.data.toList) 34 rfl rfl ho4'.out ?c2 ?c3 ?_)
      case c2 => have := hbd.out; simp only [List.length_append, List.length_cons, List.length_nil, eb_len] at this ⊢; omega
      case c3 => omega
      intro v5 w5 ho5 hg5
      have ho5' : Hid (OwnB w5 w0.heap.size v5 ((l ++ headM x ++ catK attT (x.vAttrs.take j)) ++ attT X)) := by
        show OwnB _ _ _ _
        have e : ∀ q, q = (l ++ headM x ++ catK attT (x.vAttrs.take j)) ++ attT X → OwnB w5 w0.heap.size v5 q → OwnB w5 w0.heap.size v5 ((l ++ headM x ++ catK attT (x.vAttrs.take j)) ++ attT X) := fun q h1 h2 => h1 ▸ h2
        exact e _ (by simp [attT]) ho5
      have hg5' : Hid (Goes w4 v4 w5 v5) := hg5
      clear ho5 hg5
      go_wp2_with fail
      go_roundw
      case rel => exact ⟨j + 1, by omega, by go_num, by show OwnB _ _ _ _; rw [hct'.out, ← List.append_assoc]; exact ho5'.out, (Goes.alloc hgj.out _).trans (hg3'.out.trans (hg4'.out.trans hg5'.out))⟩
      case measure => simp [intOf]; omega
    · have hka := catK_all attT x.vAttrs j hlt
      have hoj2 : Hid (OwnB wr w0.heap.size u0 (l ++ headM x ++ catK attT x.vAttrs)) := by show OwnB _ _ _ _; rw [← hka]; exact hoj.out
      have bxr : Hid (Box wr w.heap.size [.string x.vTag, .string x.vText, .slice a2 x.vAttrs.length cap2, .slice a3 x.vKids.length cap3] 27) := box_goes ho'.out hgj.out
      clear c0 c1 c2 c3 hka hka'
      have c0 := bxr.out.cell 0 rfl
      have c1 := bxr.out.cell 1 rfl
      have c2 := bxr.out.cell 2 rfl
      have c3 := bxr.out.cell 3 rfl
      generalize wr = w6 at *
      go_wp2_with (at_builtin; refine wpList_append_one rfl _ _ rfl w0.heap.size u0 (l ++ headM x ++ catK attT x.vAttrs) 62 rfl rfl hoj2.out ?c2 ?c3 ?_)
      case c2 => have := hL.out; have := headM_length x; simp only [List.length_append]; omega
      case c3 => omega
      intro v7 w7 ho7 hg7
      have ho7' : Hid (OwnB w7 w0.heap.size v7 (l ++ headM x ++ catK attT x.vAttrs ++ [62])) := by
        show OwnB _ _ _ _
        have e : ∀ q, q = l ++ headM x ++ catK attT x.vAttrs ++ [62] → OwnB w7 w0.heap.size v7 q → OwnB w7 w0.heap.size v7 (l ++ headM x ++ catK attT x.vAttrs ++ [62]) := fun q h1 h2 => h1 ▸ h2
        exact e _ (by simp) ho7
      have hg7' : Hid (Goes (w.alloc (.cells #[.string x.vTag, .string x.vText, .slice a2 x.vAttrs.length cap2, .slice a3 x.vKids.length cap3] 27)) v w7 v7) := hgj.out.trans hg7
      have bx7 : Hid (Box w7 w.heap.size [.string x.vTag, .string x.vText, .slice a2 x.vAttrs.length cap2, .slice a3 x.vKids.length cap3] 27) := box_goes ho'.out hg7'.out
      clear ho7 hg7 c0 c1 c2 c3
      have c0 := bx7.out.cell 0 rfl
      have c1 := bx7.out.cell 1 rfl
      have c2 := bx7.out.cell 2 rfl
      have c3 := bx7.out.cell 3 rfl
      go_wp2_with fail
      clear hoj hgj hoj2 bxr
      go_loopw [0, 47] (fun z i wr => ∃ (j : Nat), j ≤ x.vKids.length ∧ i = .int .i64 j ∧ Hid (OwnB wr w0.heap.size z (l ++ headM x ++ catK attT x.vAttrs ++ [62] ++ catK (mtD n) (x.vKids.take j))) ∧ Hid (Goes (w.alloc (.cells #[.string x.vTag, .string x.vText, .slice a2 x.vAttrs.length cap2, .slice a3 x.vKids.length cap3] 27)) v wr z)) (fun _ i _ => x.vKids.length - (intOf i).toNat)
      case atStart => exact ⟨0, by omega, rfl, by show OwnB _ _ _ _; rw [List.take_zero, catK, List.append_nil]; exact ho7'.out, hg7'⟩
      case round =>
        obtain ⟨j, hj, rfl, hok, hgk⟩ := hrel
        have hbk : Below w0.heap.size w0 wr := Goes.below hgk.out hb0.out (OwnB.alloc ho'.out _)
        have hzk := hbk.size
        by_cases hlt : j < x.vKids.length
        · obtain ⟨b, off, rfl, hlo, hbb, hc⟩ := hk'.out (by omega)
          obtain ⟨cs, hcl, lie, hr⟩ := hc j hlt
          have lie1 := Lie.keep (lo := lo) (lo' := lo) lie (.of_below hbk) hlo hbb
          have hkl := catK_kid (mtD n) x.vKids j hlt
          have hct := catK_take (mtD n) x.vKids j hlt
          generalize x.vKids[j] = X at hr hkl hct
          have hct' : Hid (catK (mtD n) (x.vKids.take (j + 1)) = catK (mtD n) (x.vKids.take j) ++ mtD n X) := hct
          have hr3 : Hid (MarkAt n w0 lo cs X) := hr
          have hbd : Hid ((l ++ headM x ++ catK attT x.vAttrs ++ [62] ++ catK (mtD n) (x.vKids.take j)).length + (mtD n X).length ≤ 1048576) := by
            show _ ≤ _
            have := hL.out; have := headM_length x
            simp only [List.length_append, List.length_cons, List.length_nil]; omega
          obtain ⟨p2, p3, rfl, t2, t3, qTag, qText, _⟩ := MarkAt.opened hr
          obtain ⟨b2, d2, rfl⟩ := t2.form
          obtain ⟨b3, d3, rfl⟩ := t3.form
          have z0 := lie1 0 (by simp)
          have z1 := lie1 1 (by simp)
          have z2 := lie1 2 (by simp)
          have z3 := lie1 3 (by simp)
          simp only [List.getElem?_cons_zero, List.getElem?_cons_succ, Nat.add_zero] at z0 z1 z2 z3
          have hbk' : Hid (Below w0.heap.size w0 wr) := hbk
          clear lie1 hcl t2 t3 qTag qText hk' hc c0 c1 c2 c3 hr lie hkl hct hbk
          go_wp2_with fail
          refine (hS.out w0 _ lo _ _ X _ hr3.out hsg'.out (hbk'.out.alloc hzk _) (OwnB.alloc hok.out _) hbd.out).mono ?_
          rintro e w8 ⟨v8, rfl, ho8, hg8⟩
          have ho8' : Hid (OwnB w8 w0.heap.size v8 ((l ++ headM x ++ catK attT x.vAttrs ++ [62] ++ catK (mtD n) (x.vKids.take j)) ++ mtD n X)) := ho8
          have hg8' : Hid (Goes (wr.alloc (.cells #[.string X.vTag, .string X.vText, .slice b2 X.vAttrs.length d2, .slice b3 X.vKids.length d3] 27)) u0 w8 v8) := hg8
          clear ho8 hg8 z0 z1 z2 z3
          go_wp2_with fail
          go_roundw
          case rel => exact ⟨j + 1, by omega, by go_num, by show OwnB _ _ _ _; rw [hct'.out, ← List.append_assoc]; exact ho8'.out, (Goes.alloc hgk.out _).trans hg8'.out⟩
          case measure => simp [intOf]; omega
        · have hka := catK_all (mtD n) x.vKids j hlt
          have hok2 : Hid (OwnB wr w0.heap.size u0 (l ++ headM x ++ catK attT x.vAttrs ++ [62] ++ catK (mtD n) x.vKids)) := by show OwnB _ _ _ _; rw [← hka]; exact hok.out
          have bxk : Hid (Box wr w.heap.size [.string x.vTag, .string x.vText, .slice a2 x.vAttrs.length cap2, .slice a3 x.vKids.length cap3] 27) := box_goes ho'.out hgk.out
          clear c0 c1 c2 c3 hka
          have c0 := bxk.out.cell 0 rfl
          have f1 : ¬ 9223372036854775807 < 2 + x.vTag.size := by have := hL.out; omega
          have f2 : ¬ 9223372036854775807 < 2 + x.vTag.size + 1 := by have := hL.out; omega
          go_wp2_with (at_builtin; refine wpList_append_at rfl _ _ rfl w0.heap.size u0 (l ++ headM x ++ catK attT x.vAttrs ++ [62] ++ catK (mtD n) x.vKids) _ rfl rfl hok2.out ?c2 ?c3 ?_)
          case c2 =>
            have := hL.out; have := headM_length x
            rw [ByteArray.size_append, ByteArray.size_append]
            simp only [List.length_append, List.length_cons, List.length_nil]
            show _ + (2 + _ + 1) ≤ _
            omega
          case c3 => omega
          intro v9 w9 ho9 hg9
          have ho9' : Hid (OwnB w9 w0.heap.size v9 (l ++ mtD (n + 1) x)) := by
            show OwnB _ _ _ _
            have e : ∀ q, q = l ++ mtD (n + 1) x → OwnB w9 w0.heap.size v9 q → OwnB w9 w0.heap.size v9 (l ++ mtD (n + 1) x) := fun q h1 h2 => h1 ▸ h2
            exact e _ (by rw [HT.out]; simp [footM]) ho9
          have hg9' : Hid (Goes wr u0 w9 v9) := hg9
          clear ho9 hg9
          go_wp2_with fail
          go_ret
          exact ⟨_, rfl, ho9'.out, ((Goes.refl w v).alloc _).trans (hgk.out.trans hg9'.out)⟩
theorem apM_all : ∀ n, ApM n := by
  intro n
  induction n with
  | zero => exact fun _ _ _ _ _ _ _ h _ _ _ _ => h.elim
  | succ n ih => exact apM_of n ih
/-- the text of a mark if it is right; else no byte -/
def mtR (n : Nat) (x : MarkD) : ByteArray := if okM (mzD n x 30) = true then ⟨(mtD n x).toArray⟩ else ⟨#[]⟩
theorem mtR_yes {n : Nat} {x : MarkD} (h : okM (mzD n x 30) = true) : mtR n x = ⟨(mtD n x).toArray⟩ := by simp [mtR, h]
theorem mtR_no {n : Nat} {x : MarkD} (h : okM (mzD n x 30) = false) : mtR n x = ⟨#[]⟩ := by simp [mtR, h]
theorem ok_mt {n : Nat} {x : MarkD} (h : okM (mzD n x 30) = true) : (mtD n x).length ≤ 1048576 := by
  cases hq : mzD n x 30 with
  | none => rw [hq] at h; cases h
  | some q =>
    have h1 := mzD_mt _ _ _ _ hq
    have h2 := mzD_range _ _ _ _ hq
    omega
end Go.Proofs.YtlcddndpfhdakaaDoor
