/- tagFrom, stepFrom, selFrom of the program: walked. -/
import Derived.Test.YtdlkafpemongmaaSelRd
import Derived.Test.YtdlkafpemongmaaGrowApp
namespace Go.Proofs.Ytdlkafpemongmaa
open Go.RowKit Go.Deep
theorem rest_of {s sign : ByteArray} {p : Nat} (h : preP sign.data.toList (rest s p) = true) : rest s p = sign.data.toList ++ rest s (p + sign.size) := by
  have h' : (rest s p).take sign.size = sign.data.toList := by rw [preP, bd_len] at h; simpa using h
  have := rest_app (s := s) (p := p) (n := sign.size)
  rw [h'] at this; exact this
theorem box_grown {w w' : World} {b g : Nat} {cs : List Value} {T : TypeId} (h : Box w b cs T) (hne : b ≠ g) (hg : w.grownBy w' (some g)) : Box w' b cs T := (hg.block b h.lt (fun e => hne (by injection e))).trans h
theorem grown_new {w w' : World} {g b i : Nat} {v : Value} (hb : w.heap.size ≤ b) (h : w.grownBy w' (some g)) : w.grownBy (w'.setCell ⟨b, i, none⟩ v) (some g) :=
  ⟨h.os, h.tape, h.output, by rw [set_size]; exact h.size, fun x hx hne => (set_other (by omega) _).trans (h.block x hx hne)⟩
theorem drop_rest {s : ByteArray} {p n : Nat} : (rest s p).drop n = rest s (p + n) := by unfold rest; rw [List.drop_drop]
theorem rest_len {s : ByteArray} {p : Nat} : (rest s p).length = s.size - p := by unfold rest; rw [List.length_drop, bd_len]
set_option maxHeartbeats 2000000 in
theorem tagFrom_any {w : World} {g : Nat} {s : ByteArray} {p k : Nat} (h : TrAt w g s p k) (hp : p ≤ s.size) (hs : s.size ≤ 1048576) :
    Calls Try.prog 46 #[.pointer (some ⟨g, 0, none⟩)] w fun e w' =>
      (∃ (t : ByteArray) (p' : Nat), e = .returned (.string t) ∧ rdTag (rest s p) = some (t, rest s p') ∧ p' ≤ s.size ∧ TrAt w' g s p' k ∧ w.grownBy w' (some g)) ∨ (e = .panicked gaveUp ∧ rdTag (rest s p) = none ∧ w.grownBy w' (some g)) := by
  have h' : Hid (TrAt w g s p k) := h
  have hss : Hid (s.size ≤ 1048576) := hs
  clear h hs
  go_enter Try.func46, Try.ntmps46
  go_wp2_with fail
  refine (sees_any h'.out hp).mono ?_
  rintro e w1 ⟨rfl, n1, rfl⟩
  have h1 : Hid (TrAt (w.drewN n1) g s p k) := h'.out
  cases h42 : preP [42] (rest s p)
  · go_wp2_with fail
    refine (name_any h1.out hp hss.out).mono ?_
    intro e w9 hor
    rcases hor with ⟨hnb, ⟨t, rfl, ht⟩, htr, hg9⟩ | ⟨hnb, rfl, hg9⟩
    · have hg9' : Hid (w.grownBy w9 (some g)) := grown_drewN.trans hg9
      have htr' : Hid (TrAt w9 g s (p + (lw (rest s p)).length) k) := htr
      have hrd : Hid (rdTag (rest s p) = some (t, rest s (p + (lw (rest s p)).length))) := by
        show _ = _
        unfold rdTag
        rw [h42, if_neg (by simp), if_pos hnb, drop_rest]
        rw [show (⟨(lw (rest s p)).toArray⟩ : ByteArray) = t from ba_of (by simp [ht])]
      have hle : Hid (p + (lw (rest s p)).length ≤ s.size) := by show _ ≤ _; have := lw_len_le (rest s p); rw [rest_len] at this; omega
      clear hg9 htr ht hnb
      go_wp2_with fail
      go_ret
      exact Or.inl ⟨t, _, rfl, hrd.out, hle.out, htr'.out, hg9'.out⟩
    · have hrd : Hid (rdTag (rest s p) = none) := by show _ = _; unfold rdTag; rw [h42, if_neg (by simp), hnb, if_neg (by simp)]
      have hg9' : Hid (w.grownBy w9 (some g)) := grown_drewN.trans hg9
      clear hg9
      go_wp2_with fail
      exact ⟨rfl, Or.inr ⟨rfl, hrd.out, hg9'.out⟩⟩
  · go_wp2_with fail
    refine (take_yes h1.out hp hss.out h42).mono ?_
    rintro e w9 ⟨rfl, htr, hle, hg9⟩
    have hg9' : Hid (w.grownBy w9 (some g)) := grown_drewN.trans hg9
    have htr' : Hid (TrAt w9 g s (p + 1) k) := htr
    have hle' : Hid (p + 1 ≤ s.size) := hle
    have hrd : Hid (rdTag (rest s p) = some (⟨#[]⟩, rest s (p + 1))) := by show _ = _; unfold rdTag; rw [if_pos h42, drop_rest]
    clear hg9 htr hle
    go_wp2_with fail
    go_ret
    exact Or.inl ⟨_, _, rfl, hrd.out, hle'.out, htr'.out, hg9'.out⟩
set_option maxHeartbeats 4000000 in
theorem stepFrom_any {w : World} {g : Nat} {s : ByteArray} {p k : Nat} (h : TrAt w g s p k) (hp : p ≤ s.size) (hs : s.size ≤ 1048576) :
    Calls Try.prog 38 #[.pointer (some ⟨g, 0, none⟩)] w fun e w' =>
      (∃ (x : StepD) (p' : Nat), e = .returned (.agg #[.string x.vTag, .bool x.vDeep]) ∧ rdStep (rest s p) = some (x, rest s p') ∧ p' ≤ s.size ∧ TrAt w' g s p' k ∧ w.grownBy w' (some g)) ∨ (e = .panicked gaveUp ∧ rdStep (rest s p) = none ∧ w.grownBy w' (some g)) := by
  have hss : Hid (s.size ≤ 1048576) := hs
  have hgl : g < w.heap.size := h.lt
  have hb0 : Hid (Below w.heap.size w (w.alloc (.cells #[.string ⟨#[]⟩, .bool false] 36))) := (Below.refl _ _).alloc (Nat.le_refl _) _
  have br0 : Hid (Box (w.alloc (.cells #[.string ⟨#[]⟩, .bool false] 36)) w.heap.size [.string ⟨#[]⟩, .bool false] 36) := Box.new w _ _
  have h0 : Hid (TrAt (w.alloc (.cells #[.string ⟨#[]⟩, .bool false] 36)) g s p k) := h.below hb0.out
  have hg0 : Hid (w.grownBy (w.alloc (.cells #[.string ⟨#[]⟩, .bool false] 36)) (some g)) := grown_of_below hb0.out _
  clear h hs hb0
  go_enter Try.func38, Try.ntmps38
  go_wp2_with fail
  generalize w.alloc (.cells #[.string ⟨#[]⟩, .bool false] 36) = w0 at *
  refine (sees_any h0.out hp).mono ?_
  rintro e w1 ⟨rfl, n1, rfl⟩
  have h1 : Hid (TrAt (w0.drewN n1) g s p k) := h0.out
  have br1 : Hid (Box (w0.drewN n1) w.heap.size [.string ⟨#[]⟩, .bool false] 36) := br0.out
  have hg1 : Hid (w.grownBy (w0.drewN n1) (some g)) := hg0.out.trans grown_drewN
  clear h0 br0 hg0
  generalize w0.drewN n1 = w1 at *
  cases h62 : preP [62] (rest s p)
  · go_wp2_with fail
    refine (tagFrom_any h1.out hp hss.out).mono ?_
    intro e w9 hor
    rcases hor with ⟨t, p', rfl, hrd, hp'', htr, hg9⟩ | ⟨rfl, hrd, hg9⟩
    · have hrs : Hid (rdStep (rest s p) = some (⟨t, true⟩, rest s p')) := by show _ = _; unfold rdStep; rw [h62, if_neg (by simp), hrd]; rfl
      have hg9' : Hid (w.grownBy w9 (some g)) := hg1.out.trans hg9
      have htr' : Hid (TrAt w9 g s p' k) := htr
      have br2 : Hid (Box w9 w.heap.size [.string ⟨#[]⟩, .bool false] 36) := box_grown br1.out (by omega) hg9
      clear hg9 htr hrd h1 br1 hg1
      have r0 := br2.out.cell 0 rfl
      have r1 := br2.out.cell 1 rfl
      have fR := br2.out.unfrozen
      go_wp2_with fail
      have z1 := Box.set (i := 1) (Box.set (i := 0) br2.out (.string t)) (.bool true)
      have z10 := z1.cell 0 rfl
      have z11 := z1.cell 1 rfl
      refine bodyPost_ret (v := .agg #[.string t, .bool true]) (by simp [results, Try.results38, go_sem, z10, z11]) rfl (Or.inl ⟨⟨t, true⟩, p', rfl, hrs.out, hp'', ?_, ?_⟩)
      · exact (putCells_other [.string t, .bool true] w9 w.heap.size 0 g (Nat.ne_of_lt hgl)).trans htr'.out
      · exact grown_new (by omega) (grown_new (by omega) hg9'.out)
    · have hrs : Hid (rdStep (rest s p) = none) := by show _ = _; unfold rdStep; rw [h62, if_neg (by simp), hrd]; rfl
      have hg9' : Hid (w.grownBy w9 (some g)) := hg1.out.trans hg9
      clear hg9
      go_wp2_with fail
      exact ⟨rfl, Or.inr ⟨rfl, hrs.out, hg9'.out⟩⟩
  · go_wp2_with fail
    cases h632 : preP [62, 32] (rest s p)
    · refine (take_no h1.out hp h632).mono ?_
      rintro e w9 ⟨rfl, hg9⟩
      have hrs : Hid (rdStep (rest s p) = none) := by show _ = _; unfold rdStep; rw [if_pos h62, h632, if_neg (by simp)]
      have hg9' : Hid (w.grownBy w9 (some g)) := hg1.out.trans hg9
      clear hg9
      go_wp2_with fail
      exact ⟨rfl, Or.inr ⟨rfl, hrs.out, hg9'.out⟩⟩
    · refine (take_yes h1.out hp hss.out h632).mono ?_
      rintro e w2 ⟨rfl, htr2, hp2, hg2⟩
      have htr2' : Hid (TrAt w2 g s (p + 2) k) := htr2
      have hp2' : Hid (p + 2 ≤ s.size) := hp2
      have hg2' : Hid (w.grownBy w2 (some g)) := hg1.out.trans hg2
      have br3 : Hid (Box w2 w.heap.size [.string ⟨#[]⟩, .bool false] 36) := box_grown br1.out (by omega) hg2
      have hst : Hid (rdStep (rest s p) = (rdTag (rest s (p + 2))).map fun q => (⟨q.1, false⟩, q.2)) := by show _ = _; unfold rdStep; rw [if_pos h62, if_pos h632, drop_rest]
      clear htr2 hp2 hg2 h1 br1 hg1
      go_wp2_with fail
      refine (tagFrom_any htr2'.out hp2'.out hss.out).mono ?_
      intro e w9 hor
      rcases hor with ⟨t, p', rfl, hrd, hp'', htr, hg9⟩ | ⟨rfl, hrd, hg9⟩
      · have hrs : Hid (rdStep (rest s p) = some (⟨t, false⟩, rest s p')) := by show _ = _; rw [hst.out, hrd]; rfl
        have hg9' : Hid (w.grownBy w9 (some g)) := hg2'.out.trans hg9
        have htr' : Hid (TrAt w9 g s p' k) := htr
        have br2 : Hid (Box w9 w.heap.size [.string ⟨#[]⟩, .bool false] 36) := box_grown br3.out (by omega) hg9
        clear hg9 htr hrd br3 hg2' htr2'
        have r0 := br2.out.cell 0 rfl
        have r1 := br2.out.cell 1 rfl
        have fR := br2.out.unfrozen
        go_wp2_with fail
        have z1 := Box.set (i := 1) (Box.set (i := 0) br2.out (.string t)) (.bool false)
        have z10 := z1.cell 0 rfl
        have z11 := z1.cell 1 rfl
        refine bodyPost_ret (v := .agg #[.string t, .bool false]) (by simp [results, Try.results38, go_sem, z10, z11]) rfl (Or.inl ⟨⟨t, false⟩, p', rfl, hrs.out, hp'', ?_, ?_⟩)
        · exact (putCells_other [.string t, .bool false] w9 w.heap.size 0 g (Nat.ne_of_lt hgl)).trans htr'.out
        · exact grown_new (by omega) (grown_new (by omega) hg9'.out)
      · have hrs : Hid (rdStep (rest s p) = none) := by show _ = _; rw [hst.out, hrd]; rfl
        have hg9' : Hid (w.grownBy w9 (some g)) := hg2'.out.trans hg9
        clear hg9
        go_wp2_with fail
        exact ⟨rfl, Or.inr ⟨rfl, hrs.out, hg9'.out⟩⟩
end Go.Proofs.Ytdlkafpemongmaa
