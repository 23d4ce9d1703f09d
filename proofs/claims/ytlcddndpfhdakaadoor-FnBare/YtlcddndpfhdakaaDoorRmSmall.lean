/- The program's reader of texts, as marks ask for it: what stands as far as a byte, unescaped. -/
import Derived.Test.YtlcddndpfhdakaaDoorRmPlain
import Derived.Test.YtlcddndpfhdakaaDoorUnImpl
import Derived.Laws.StandIn
import Derived.Lib.Bytealg
namespace Go.Proofs.YtlcddndpfhdakaaDoor
open Go.RowKit Go.Deep
theorem rest_of {s sign : ByteArray} {p : Nat} (h : preP sign.data.toList (rest s p) = true) : rest s p = sign.data.toList ++ rest s (p + sign.size) := by
  have h' : (rest s p).take sign.size = sign.data.toList := by rw [preP, bd_len] at h; simpa using h
  have := rest_app (s := s) (p := p) (n := sign.size)
  rw [h'] at this; exact this
theorem rest_lw {s : ByteArray} {p : Nat} : rest s p = lw (rest s p) ++ rest s (p + (lw (rest s p)).length) := by
  have e := rest_app (s := s) (p := p) (n := (lw (rest s p)).length)
  have hp : (rest s p).take (lw (rest s p)).length = lw (rest s p) := (List.prefix_iff_eq_take.1 (List.takeWhile_prefix _)).symm
  rw [hp] at e; exact e
theorem box_grown {w w' : World} {b g : Nat} {cs : List Value} {T : TypeId} (h : Box w b cs T) (hne : b ≠ g) (hg : w.grownBy w' (some g)) : Box w' b cs T := (hg.block b h.lt (fun e => hne (by injection e))).trans h
theorem drop_rest {s : ByteArray} {p n : Nat} : (rest s p).drop n = rest s (p + n) := by unfold rest; rw [List.drop_drop]
theorem rest_len {s : ByteArray} {p : Nat} : (rest s p).length = s.size - p := by unfold rest; rw [List.length_drop, bd_len]
theorem tr_ne {w : World} {g : Nat} {s : ByteArray} {p k : Nat} (h : TrAt w g s p k) (hs : Signs w) : g ≠ 0 := fun e => by
  have h1 := h.cell 0 rfl
  rw [e, hs.1] at h1; cases h1
theorem Signs.grown {w w' : World} {g : Nat} (h : Signs w) (hg : w.grownBy w' (some g)) (hne : g ≠ 0) : Signs w' := h.keep (hg.block 0 h.lt (fun e => hne (by injection e with e; exact e.symm)))
theorem Signs.all {w w' : World} (h : Signs w) (hb : Below w.heap.size w w') : Signs w' := h.below hb h.lt
theorem idx_upto (c : UInt8) : ∀ l : List UInt8, Lib.indexByte l c = if (upto c l).length < l.length then ((upto c l).length : Int) else -1 := by
  intro l
  induction l with
  | nil => rfl
  | cons b l ih =>
    unfold Lib.indexByte
    by_cases hb : b = c
    · subst hb; simp [upto]
    · have h1 : (b == c) = false := by simpa using hb
      have h2 : (b != c) = true := by simpa using hb
      have e : upto c (b :: l) = b :: upto c l := by simp only [upto, List.takeWhile_cons, h2, if_true]
      rw [h1, e, ih]
      by_cases hl : (upto c l).length < l.length
      · have e1 : (if (upto c l).length < l.length then ((upto c l).length : Int) else -1) = ((upto c l).length : Int) := if_pos hl
        have e2 : (if (b :: upto c l).length < (b :: l).length then (((b :: upto c l).length : Nat) : Int) else -1) = ((upto c l).length : Int) + 1 := by rw [if_pos (by simp; omega)]; simp
        have e3 : (((upto c l).length : Int) == -1) = false := by apply beq_false_of_ne; omega
        rw [e1, e2, e3]; rfl
      · have e1 : (if (upto c l).length < l.length then ((upto c l).length : Int) else -1) = -1 := if_neg hl
        have e2 : (if (b :: upto c l).length < (b :: l).length then (((b :: upto c l).length : Nat) : Int) else -1) = -1 := by rw [if_neg (by simp; omega)]
        rw [e1, e2]; rfl
theorem upto_all {c : UInt8} {l : List UInt8} (h : ¬ (upto c l).length < l.length) : upto c l = l := by
  have h1 := upto_split c l
  have h2 : l.drop (upto c l).length = [] := List.drop_of_length_le (by omega)
  rw [h2, List.append_nil] at h1; exact h1.symm
set_option maxRecDepth 100000 in
set_option maxHeartbeats 1000000 in
theorem indexByte_any (s : ByteArray) (c : UInt8) (w : World) :
    Calls Tryd.prog 76 #[.string s, .int .u8 (c.toNat : Int)] w fun e w' => e = .returned (.int .i64 (Lib.indexByte s.data.toList c)) ∧ w' = w := by
  have hd : ∀ w : World, (callFunc 85 #[.string s, .int .u8 (c.toNat : Int)]).run Tryd.prog w = .ok (.value (.int .i64 (Lib.indexByte s.data.toList c))) w := fun w => by
    rw [run_callFunc_indexByte Tryd.func85 (by kernel_rfl) (by kernel_rfl) (by kernel_rfl) (by kernel_rfl), Lib.run_indexByteString]
    simp [Result.andThen]
  go_enter Tryd.func76, Tryd.ntmps76
  go_wp2
  go_ret
  exact ⟨rfl, rfl⟩
set_option maxRecDepth 100000 in
set_option maxHeartbeats 2000000 in
theorem plainUpTo_any {w : World} {g : Nat} {s : ByteArray} {p k : Nat} (c : UInt8) (h : TrAt w g s p k) (hp : p ≤ s.size) (hs : s.size ≤ 1048576) (hsg : Signs w) :
    Calls Tryd.prog 55 #[.pointer (some ⟨g, 0, none⟩), .int .u8 (c.toNat : Int)] w fun e w' =>
      (∃ t : ByteArray, e = .returned (.string t) ∧ unL (upto c (rest s p)) = some t.data.toList ∧ TrAt w' g s (p + (upto c (rest s p)).length) k ∧ w.grownBy w' (some g)) ∨ (e = .panicked gaveUp ∧ unL (upto c (rest s p)) = none ∧ w.grownBy w' (some g)) := by
  have h' : Hid (TrAt w g s p k) := h
  have hsg' : Hid (Signs w) := hsg
  have hgl : g < w.heap.size := h.lt
  have c0 := h.cell 0 rfl
  have c1 := h.cell 1 rfl
  have hpz : (p : Int) ≤ 1048576 := by omega
  have hup := upto_len c (rest s p)
  rw [rest_len] at hup
  obtain ⟨e0, he0⟩ : ∃ e0 : ByteArray, e0 = s.extract p s.size := ⟨_, rfl⟩
  have hsl : ∀ w, (Instr.slice 9 (.string s) (some (.int .i64 (p : Int))) none none).run Tryd.prog w = .ok (.string e0) w := fun w => by rw [he0]; exact sl_from s p hp w
  have hel : e0.data.toList = rest s p := by rw [he0, bd_mid, List.take_of_length_le (by rw [List.length_drop, bd_len]; omega)]
  have hez : e0.size = s.size - p := by rw [← bd_len, hel, rest_len]
  -- what is cut off
  obtain ⟨eu, heu⟩ : ∃ eu : ByteArray, eu.data.toList = upto c (rest s p) := ⟨⟨(upto c (rest s p)).toArray⟩, by simp⟩
  have heuz : eu.size = (upto c (rest s p)).length := by rw [← bd_len, heu]
  have heuz' : Hid (eu.size = (upto c (rest s p)).length) := heuz
  have heus : Hid (eu.size ≤ 1048576) := by show _ ≤ _; omega
  have hzi : (eu.size : Int) ≤ 1048576 := by omega
  have heu' : Hid (eu.data.toList = upto c (rest s p)) := heu
  have hle : Hid (p + eu.size ≤ s.size) := by show _ ≤ _; omega
  have key : (Lib.indexByte e0.data.toList c = (eu.size : Int) ∧ (∀ w, (Instr.slice 9 (.string e0) none (some (.int .i64 (eu.size : Int))) none).run Tryd.prog w = .ok (.string eu) w)) ∨ (Lib.indexByte e0.data.toList c = -1 ∧ e0 = eu) := by
    rw [idx_upto, hel]
    by_cases hl : (upto c (rest s p)).length < (rest s p).length
    · left
      rw [if_pos hl, heuz]
      refine ⟨rfl, fun w => ?_⟩
      rw [← heuz]
      have q := sl_to e0 eu.size (by rw [rest_len] at hl; omega) w
      rw [show e0.extract 0 eu.size = eu from ba_of (by rw [bd_mid]; simp only [List.drop_zero, Nat.sub_zero]; rw [hel, heuz, heu]; exact (List.prefix_iff_eq_take.1 (List.takeWhile_prefix _)).symm)] at q
      exact q
    · right
      rw [if_neg hl]
      exact ⟨rfl, ba_of (by rw [hel, heu, upto_all hl])⟩
  have hel' : Hid (e0.data.toList = rest s p) := hel
  clear h hsg he0 hel hez heu heuz hup
  go_enter Tryd.func55, Tryd.ntmps55
  go_wp2_with fail
  go_quiet (fail)
  go_wp2_with fail
  refine (indexByte_any e0 c _).mono ?_
  rintro e w1 ⟨rfl, rfl⟩
  rcases key with ⟨k1, k2⟩ | ⟨k1, k2⟩
  · rw [k1]
    have hge : (0 : Int) ≤ (eu.size : Int) := by omega
    clear k1
    go_wp2_with fail
    refine (implUnescaped_any eu _ heus.out (show Signs (w.drewN nq) from hsg'.out)).mono ?_
    rintro e w2 ⟨rfl, hb2⟩
    rw [heu'.out]
    have h2 : Hid (TrAt w2 g s p k) := (show TrAt (w.drewN nq) g s p k from h'.out).below hb2
    have hg2 : Hid (w.grownBy w2 (some g)) := grown_drewN.trans (grown_of_below hb2 _)
    clear hb2
    cases hu : unL (upto c (rest s p)) with
    | none =>
      rw [show unV none = .tuple #[.string ⟨#[]⟩, .bool false] from rfl]
      go_wp2_with fail
      refine (giveUp_any _ _).mono ?_
      rintro e w3 ⟨rfl, rfl⟩
      go_wp2_with fail
      exact ⟨rfl, Or.inr ⟨rfl, hu, hg2.out⟩⟩
    | some t =>
      rw [show unV (some t) = .tuple #[.string ⟨t.toArray⟩, .bool true] from rfl]
      have d1 := h2.out.cell 1 rfl
      have f1 := h2.out.unfrozen 1
      go_wp2_with fail
      go_ret
      refine Or.inl ⟨⟨t.toArray⟩, rfl, by rw [hu], ?_, hg2.out.trans (grown_set _)⟩
      rw [← heuz'.out]
      have := TrAt.set h2.out (p + eu.size)
      simpa using this
  · rw [k1]
    obtain rfl : eu = e0 := k2.symm
    clear k1
    go_wp2_with fail
    refine (implUnescaped_any eu _ heus.out (show Signs (w.drewN nq) from hsg'.out)).mono ?_
    rintro e w2 ⟨rfl, hb2⟩
    rw [heu'.out]
    have h2 : Hid (TrAt w2 g s p k) := (show TrAt (w.drewN nq) g s p k from h'.out).below hb2
    have hg2 : Hid (w.grownBy w2 (some g)) := grown_drewN.trans (grown_of_below hb2 _)
    clear hb2
    cases hu : unL (upto c (rest s p)) with
    | none =>
      rw [show unV none = .tuple #[.string ⟨#[]⟩, .bool false] from rfl]
      go_wp2_with fail
      refine (giveUp_any _ _).mono ?_
      rintro e w3 ⟨rfl, rfl⟩
      go_wp2_with fail
      exact ⟨rfl, Or.inr ⟨rfl, hu, hg2.out⟩⟩
    | some t =>
      rw [show unV (some t) = .tuple #[.string ⟨t.toArray⟩, .bool true] from rfl]
      have d1 := h2.out.cell 1 rfl
      have f1 := h2.out.unfrozen 1
      go_wp2_with fail
      go_ret
      refine Or.inl ⟨⟨t.toArray⟩, rfl, by rw [hu], ?_, hg2.out.trans (grown_set _)⟩
      rw [← heuz'.out]
      have := TrAt.set h2.out (p + eu.size)
      simpa using this
end Go.Proofs.YtlcddndpfhdakaaDoor
