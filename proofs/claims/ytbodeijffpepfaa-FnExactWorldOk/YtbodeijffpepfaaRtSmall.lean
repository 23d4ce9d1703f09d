/- The program's reader of texts: what it sees, takes, names, and where it gives up. -/
import Derived.Test.YtbodeijffpepfaaRdLets
import Derived.Test.YtbodeijffpepfaaNameWalks
import Derived.Test.YtbodeijffpepfaaGrowDraw
import Derived.WalkKit
import Derived.Deep.QuietTactic
import Derived.BigQuiet
import Derived.Laws.IdiomStrings
import Derived.WalkLawsBesides
namespace Go.Proofs.Ytbodeijffpepfaa
open Go.RowKit
/-- does the one open the other? -/
def preP (p l : List UInt8) : Bool := l.take p.length == p
theorem preP_yes {p l : List UInt8} (h : preP p l = true) : ∃ r, l = p ++ r := by
  have h' : l.take p.length = p := by simpa [preP] using h
  exact ⟨l.drop p.length, by have := List.take_append_drop p.length l; rw [h'] at this; exact this.symm⟩
theorem preP_of {p l r : List UInt8} (h : l = p ++ r) : preP p l = true := by subst h; simp [preP]
theorem preP_no {p l : List UInt8} (h : preP p l = false) : ∀ r, l ≠ p ++ r := fun r e => by rw [preP_of e] at h; cases h
theorem bd_len (a : ByteArray) : a.data.toList.length = a.size := by simp
theorem bd_mid (s : ByteArray) (i j : Nat) : (s.extract i j).data.toList = (s.data.toList.drop i).take (j - i) := by
  simp
theorem bd_ne {a b : ByteArray} (h : ¬ a = b) : ¬ a.toList = b.toList := fun e => h (ba_of (by rw [← ByteArray.toList_eq, ← ByteArray.toList_eq, e]))
theorem sl_to (s : ByteArray) (j : Nat) (hj : j ≤ s.size) (w : World) :
    (Instr.slice 9 (.string s) none (some (.int .i64 j)) none).run Try.prog w = .ok (.string (s.extract 0 j)) w := by
  have := run_slice_string_h (P := Try.prog) w 9 s Try.underlying9 .i64 j (by omega) (by omega)
  simpa using this
theorem sl_from (s : ByteArray) (i : Nat) (hi : i ≤ s.size) (w : World) :
    (Instr.slice 9 (.string s) (some (.int .i64 i)) none none).run Try.prog w = .ok (.string (s.extract i s.size)) w := by
  have := run_slice_string_l (P := Try.prog) w 9 s Try.underlying9 .i64 i (by omega) (by omega)
  simpa using this
theorem preP_ext {a b : ByteArray} : (a.extract 0 b.size = b) ↔ preP b.data.toList a.data.toList = true := by
  have e : (a.extract 0 b.size).data.toList = a.data.toList.take b.size := by rw [bd_mid]; simp
  constructor
  · intro q
    rw [q] at e
    rw [preP, bd_len, ← e]; simp
  · intro q
    rw [preP, bd_len] at q
    exact ba_of (e.trans (by simpa using q))
set_option maxHeartbeats 1000000 in
theorem litePre_any (a b : ByteArray) (w : World) :
    Calls Try.prog 97 #[.string a, .string b] w fun e w' => e = .returned (.bool (preP b.data.toList a.data.toList)) ∧ w' = w := by
  by_cases h : b.size ≤ a.size
  · have hsl := sl_to a b.size h w
    by_cases q : a.extract 0 b.size = b
    · have H : Hid _ := preP_ext.1 q
      rw [q] at hsl
      clear q
      go_enter Try.func97, Try.ntmps97
      go_wp2
      go_ret
      exact ⟨by rw [H.out]; simp, rfl⟩
    · have H : Hid (preP b.data.toList a.data.toList = false) := by
        show _ = _
        cases hq : preP b.data.toList a.data.toList
        · rfl
        · exact absurd (preP_ext.2 hq) q
      go_enter Try.func97, Try.ntmps97
      go_wp2
      go_ret
      exact ⟨by rw [H.out]; simp [bd_ne q], rfl⟩
  · have H : Hid (preP b.data.toList a.data.toList = false) := by
      show _ = _
      cases hq : preP b.data.toList a.data.toList
      · rfl
      · obtain ⟨r, e⟩ := preP_yes hq
        have := congrArg List.length e
        rw [List.length_append, bd_len, bd_len] at this
        omega
    go_enter Try.func97, Try.ntmps97
    go_wp2
    go_ret
    exact ⟨by rw [H.out]; rfl, rfl⟩
theorem hasPre_any (a b : ByteArray) (w : World) :
    Calls Try.prog 91 #[.string a, .string b] w fun e w' => e = .returned (.bool (preP b.data.toList a.data.toList)) ∧ w' = w := by
  go_enter Try.func91, Try.ntmps91
  go_wp2_with fail
  refine (litePre_any a b w).mono ?_
  rintro e w1 ⟨rfl, rfl⟩
  go_wp2_with fail
  go_ret
  exact ⟨rfl, rfl⟩
/-! ### the reader -/
/-- a reader of s at p with room for k -/
def TrAt (w : World) (g : Nat) (s : ByteArray) (p k : Nat) : Prop := Box w g [.string s, .int .i64 (p : Int), .int .i64 (k : Int)] 132
/-- what is left -/
abbrev rest (s : ByteArray) (p : Nat) : List UInt8 := s.data.toList.drop p
/-- what is thrown -/
abbrev gaveUp : List PanicEntry := [{ v := .iface 9 (.string ⟨#[116, 104, 105, 115, 32, 105, 115, 32, 110, 111, 32, 116, 101, 120, 116, 32, 111, 102, 32, 115, 117, 99, 104, 32, 97, 32, 116, 104, 105, 110, 103]⟩), recovered := false }]
theorem giveUp_any (v : Value) (w : World) : Calls Try.prog 90 #[v] w fun e w' => e = .panicked gaveUp ∧ w' = w := by
  go_enter Try.func90, Try.ntmps90
  go_wp2
  exact ⟨rfl, rfl, rfl⟩
theorem grown_drewN {w : World} {n : Nat} {r : Option Nat} : w.grownBy (w.drewN n) r := ⟨rfl, rfl, rfl, Nat.le_refl _, fun _ _ _ => rfl⟩
theorem grown_any {w : World} {r : Option Nat} : w.grownBy w r := ⟨rfl, rfl, rfl, Nat.le_refl _, fun _ _ _ => rfl⟩
theorem TrAt.drew {w : World} {g : Nat} {s : ByteArray} {p k : Nat} (h : TrAt w g s p k) (n : Nat) : TrAt (w.drewN n) g s p k := h
theorem TrAt.lt {w : World} {g : Nat} {s : ByteArray} {p k : Nat} (h : TrAt w g s p k) : g < w.heap.size := Box.lt h
theorem TrAt.below {w w' : World} {g : Nat} {s : ByteArray} {p k : Nat} (h : TrAt w g s p k) (hb : Below w.heap.size w w') : TrAt w' g s p k := Box.below h hb h.lt
theorem TrAt.set {w : World} {g : Nat} {s : ByteArray} {p k : Nat} (h : TrAt w g s p k) (q : Nat) : TrAt (w.setCell ⟨g, 1, none⟩ (.int .i64 (q : Int))) g s q k := Box.set (i := 1) h _
set_option maxHeartbeats 1000000 in
theorem sees_any {w : World} {g : Nat} {s sign : ByteArray} {p k : Nat} (h : TrAt w g s p k) (hp : p ≤ s.size) :
    Calls Try.prog 79 #[.pointer (some ⟨g, 0, none⟩), .string sign] w fun e w' => e = .returned (.bool (preP sign.data.toList (rest s p))) ∧ ∃ n, w' = w.drewN n := by
  have c0 := h.cell 0 rfl
  have c1 := h.cell 1 rfl
  have hsl : ∀ w, (Instr.slice 9 (.string s) (some (.int .i64 (p : Int))) none none).run Try.prog w = .ok (.string (s.extract p s.size)) w := fun w => sl_from s p hp w
  have he : Hid ((s.extract p s.size).data.toList = rest s p) := by
    show _ = _
    rw [bd_mid, List.take_of_length_le (by rw [List.length_drop, bd_len]; omega)]
  clear h hp
  go_enter Try.func79, Try.ntmps79
  go_wp2_with fail
  go_quiet ((go_at_call 91; exact Calls.quiet_of_same (hasPre_any _ _ _)))
  go_wp2_with fail
  go_ret
  exact ⟨by rw [he.out]; rfl, nq, rfl⟩
set_option maxHeartbeats 1000000 in
theorem take_yes {w : World} {g : Nat} {s sign : ByteArray} {p k : Nat} (h : TrAt w g s p k) (hp : p ≤ s.size) (hs : s.size ≤ 1048576) (hy : preP sign.data.toList (rest s p) = true) :
    Calls Try.prog 77 #[.pointer (some ⟨g, 0, none⟩), .string sign] w fun e w' => e = .returned (.tuple #[]) ∧ TrAt w' g s (p + sign.size) k ∧ p + sign.size ≤ s.size ∧ w.grownBy w' (some g) := by
  have h' : Hid (TrAt w g s p k) := h
  have hle : Hid (p + sign.size ≤ s.size) := by
    show _ ≤ _
    obtain ⟨r, e⟩ := preP_yes hy
    have := congrArg List.length e
    rw [List.length_append, List.length_drop, bd_len, bd_len] at this
    omega
  have hsz : (sign.size : Int) ≤ 1048576 := by have := hle.out; omega
  have hpz : (p : Int) ≤ 1048576 := by omega
  have hy' : Hid (preP sign.data.toList (rest s p) = true) := hy
  clear h hy
  go_enter Try.func77, Try.ntmps77
  go_wp2_with fail
  refine (sees_any h'.out hp).mono ?_
  rintro e w1 ⟨rfl, n, rfl⟩
  rw [hy'.out]
  have h1 : TrAt (w.drewN n) g s p k := h'.out
  have c1 := h1.cell 1 rfl
  have f1 := h1.unfrozen 1
  clear h1
  go_wp2_with fail
  go_end0
  refine ⟨rfl, ?_, hle.out, ?_⟩
  · have := TrAt.set (h'.out.drew n) (p + sign.size)
    simpa using this
  · exact grown_drewN.trans (grown_set _)
set_option maxHeartbeats 1000000 in
theorem take_no {w : World} {g : Nat} {s sign : ByteArray} {p k : Nat} (h : TrAt w g s p k) (hp : p ≤ s.size) (hy : preP sign.data.toList (rest s p) = false) :
    Calls Try.prog 77 #[.pointer (some ⟨g, 0, none⟩), .string sign] w fun e w' => e = .panicked gaveUp ∧ w.grownBy w' (some g) := by
  have h' : Hid (TrAt w g s p k) := h
  have hy' : Hid (preP sign.data.toList (rest s p) = false) := hy
  clear h hy
  go_enter Try.func77, Try.ntmps77
  go_wp2_with fail
  refine (sees_any h'.out hp).mono ?_
  rintro e w1 ⟨rfl, n, rfl⟩
  rw [hy'.out]
  go_wp2_with fail
  refine (giveUp_any _ _).mono ?_
  rintro e w2 ⟨rfl, rfl⟩
  go_wp2_with fail
  exact ⟨rfl, rfl, grown_drewN⟩
theorem sl_mid (s : ByteArray) (i j : Nat) (hij : i ≤ j) (hj : j ≤ s.size) (w : World) :
    (Instr.slice 9 (.string s) (some (.int .i64 (i : Int))) (some (.int .i64 (j : Int))) none).run Try.prog w = .ok (.string (s.extract i j)) w := by
  have := run_slice_string (P := Try.prog) (w := w) 9 s .i64 .i64 i j Try.underlying9 (by omega) (by omega) (by omega)
  simpa using this
/-! ### letters -/
/-- the letters at the beginning -/
def lw (l : List UInt8) : List UInt8 := l.takeWhile fun c => letB (c.toNat : Int)
theorem lw_lets (l : List UInt8) : letsB (lw l) = true := by
  induction l with
  | nil => rfl
  | cons c l ih =>
    unfold lw; rw [List.takeWhile_cons]
    cases h : letB (c.toNat : Int)
    · rfl
    · simp only [if_true, letsB, h, Bool.true_and]; exact ih
theorem lw_of {a b : List UInt8} (ha : letsB a = true) (hb : ∀ c r, b = c :: r → letB (c.toNat : Int) = false) : lw (a ++ b) = a := by
  induction a with
  | nil =>
    cases b with
    | nil => rfl
    | cons c r => simp [lw, hb c r rfl]
  | cons c a ih =>
    simp only [letsB, Bool.and_eq_true] at ha
    have := ih ha.2
    simp only [lw, List.cons_append, List.takeWhile_cons, ha.1, if_true] at this ⊢
    rw [this]
theorem rest_cons {s : ByteArray} {q : Nat} (h : q < s.size) : rest s q = s[q] :: rest s (q + 1) := by
  unfold rest; rw [List.drop_eq_getElem_cons (by rw [bd_len]; exact h)]; rfl
theorem rest_app {s : ByteArray} {p n : Nat} : rest s p = (rest s p).take n ++ rest s (p + n) := by
  unfold rest; rw [← List.drop_drop]; exact (List.take_append_drop n _).symm
theorem lw_stop {s : ByteArray} {p q : Nat} (hpq : p ≤ q) (hl : letsB ((rest s p).take (q - p)) = true) (hs : ∀ h : q < s.size, letB (s[q].toNat : Int) = false) : lw (rest s p) = (rest s p).take (q - p) := by
  have e := rest_app (s := s) (p := p) (n := q - p)
  rw [show p + (q - p) = q by omega] at e
  have := lw_of (b := rest s q) hl (fun c r hc => by
    have hlt : q < s.size := by
      rcases Nat.lt_or_ge q s.size with h | h
      · exact h
      · unfold rest at hc; rw [List.drop_of_length_le (by rw [bd_len]; exact h)] at hc; cases hc
    rw [rest_cons hlt] at hc
    injection hc with h1 _
    rw [← h1]; exact hs hlt)
  rw [← e] at this; exact this
theorem lets_more {s : ByteArray} {p q : Nat} (hpq : p ≤ q) (hq : q < s.size) (hl : letsB ((rest s p).take (q - p)) = true) (hs : letB (s[q].toNat : Int) = true) : letsB ((rest s p).take (q + 1 - p)) = true := by
  have e : (rest s p).take (q + 1 - p) = (rest s p).take (q - p) ++ [s[q]] := by
    have hlen : q - p < (rest s p).length := by unfold rest; rw [List.length_drop, bd_len]; omega
    rw [show q + 1 - p = q - p + 1 by omega, List.take_succ_eq_append_getElem hlen]
    congr 2
    simp only [rest, List.getElem_drop, show p + (q - p) = q by omega]
    rfl
  rw [e, letsB_snoc, hl, hs]; rfl
theorem lw_len_le (l : List UInt8) : (lw l).length ≤ l.length := by
  unfold lw; exact (List.takeWhile_prefix _).length_le
set_option maxHeartbeats 4000000 in
/-- a name is read: its letters -/
theorem name_any {w : World} {g : Nat} {s : ByteArray} {p k : Nat} (h : TrAt w g s p k) (hp : p ≤ s.size) (hs : s.size ≤ 1048576) :
    Calls Try.prog 78 #[.pointer (some ⟨g, 0, none⟩)] w fun e w' =>
      (nameB (lw (rest s p)) = true ∧ (∃ t : ByteArray, e = .returned (.string t) ∧ t.data.toList = lw (rest s p)) ∧ TrAt w' g s (p + (lw (rest s p)).length) k ∧ w.grownBy w' (some g)) ∨
      (nameB (lw (rest s p)) = false ∧ e = .panicked gaveUp ∧ w.grownBy w' (some g)) := by
  have h' : Hid (TrAt w g s p k) := h
  have hpz : (p : Int) ≤ 1048576 := by omega
  have hsz : (s.size : Int) ≤ 1048576 := by omega
  have c0 := h.cell 0 rfl
  have c1 := h.cell 1 rfl
  have f1 := h.unfrozen 1
  clear h
  go_enter Try.func78, Try.ntmps78
  go_wp2_with fail
  go_loop [3] (fun i => ∃ q : Nat, p ≤ q ∧ q ≤ s.size ∧ i = .int .i64 q ∧ Hid (letsB ((rest s p).take (q - p)) = true)) (fun i => s.size - (intOf i).toNat)
  case atStart => exact ⟨p, Nat.le_refl _, hp, rfl, by show _ = _; simp [letsB]⟩
  case round =>
    obtain ⟨q, hpq, hq, rfl, hall⟩ := hrel
    have key : (∀ h : q < s.size, letB (s[q].toNat : Int) = false) → ∃ t : ByteArray, t = s.extract p q ∧ t.data.toList = lw (rest s p) ∧ q = p + (lw (rest s p)).length := fun hst => by
      have e := lw_stop hpq hall.out hst
      refine ⟨_, rfl, by rw [bd_mid, e], ?_⟩
      rw [e, List.length_take]; unfold rest; rw [List.length_drop, bd_len]; omega
    by_cases hlt : q < s.size
    · cases hl : letB (s[q].toNat : Int)
      · obtain ⟨t, ht, htl, hql⟩ := key (fun _ => hl)
        have hsl : ∀ w, (Instr.slice 9 (.string s) (some (.int .i64 (p : Int))) (some (.int .i64 (q : Int))) none).run Try.prog w = .ok (.string t) w := fun w => by rw [ht]; exact sl_mid s p q hpq hq w
        have htl' : Hid (t.data.toList = lw (rest s p)) := htl
        have hql' : Hid (q = p + (lw (rest s p)).length) := hql
        have htm : Hid (t.size ≤ maxLen) := by show _ ≤ _; have := lw_len_le (rest s p); rw [← htl, bd_len] at this; have h2 : (rest s p).length ≤ s.size := by unfold rest; rw [List.length_drop, bd_len]; omega
                                               unfold maxLen; omega
        clear key ht htl hql
        go_wp2_with (go_at_call 87; refine (isLetter_any _ _).mono ?_; rintro e w' ⟨rfl, rfl⟩; rw [hl])
        go_quiet (fail)
        go_wp2_with fail
        refine (implNameOk_any _ _ htm.out).mono ?_
        rintro e w1 ⟨rfl, rfl⟩
        rw [htl'.out]
        cases hn : nameB (lw (rest s p))
        · go_wp2_with fail
          refine (giveUp_any _ _).mono ?_
          rintro e w2 ⟨rfl, rfl⟩
          go_wp2_with fail
          exact ⟨rfl, Or.inr ⟨hn, rfl, grown_drewN⟩⟩
        · go_wp2_with fail
          go_ret
          refine Or.inl ⟨hn, ⟨t, rfl, htl'.out⟩, ?_, grown_drewN.trans (grown_set _)⟩
          rw [← hql'.out]
          exact TrAt.set (h'.out.drew nq) q
      · have hm : Hid (letsB ((rest s p).take (q + 1 - p)) = true) := lets_more hpq hlt hall.out hl
        clear key
        go_wp2_with (go_at_call 87; refine (isLetter_any _ _).mono ?_; rintro e w' ⟨rfl, rfl⟩; rw [hl])
        go_round
        case rel => exact ⟨q + 1, by omega, by omega, by go_num, hm⟩
        case measure => simp [intOf]; omega
    · obtain ⟨t, ht, htl, hql⟩ := key (fun h => absurd h hlt)
      have hsl : ∀ w, (Instr.slice 9 (.string s) (some (.int .i64 (p : Int))) (some (.int .i64 (q : Int))) none).run Try.prog w = .ok (.string t) w := fun w => by rw [ht]; exact sl_mid s p q hpq hq w
      have htl' : Hid (t.data.toList = lw (rest s p)) := htl
      have hql' : Hid (q = p + (lw (rest s p)).length) := hql
      have htm : Hid (t.size ≤ maxLen) := by show _ ≤ _; have := lw_len_le (rest s p); rw [← htl, bd_len] at this; have h2 : (rest s p).length ≤ s.size := by unfold rest; rw [List.length_drop, bd_len]; omega
                                             unfold maxLen; omega
      clear key ht htl hql
      go_wp2_with fail
      go_quiet (fail)
      go_wp2_with fail
      refine (implNameOk_any _ _ htm.out).mono ?_
      rintro e w1 ⟨rfl, rfl⟩
      rw [htl'.out]
      cases hn : nameB (lw (rest s p))
      · go_wp2_with fail
        refine (giveUp_any _ _).mono ?_
        rintro e w2 ⟨rfl, rfl⟩
        go_wp2_with fail
        exact ⟨rfl, Or.inr ⟨hn, rfl, grown_drewN⟩⟩
      · go_wp2_with fail
        go_ret
        refine Or.inl ⟨hn, ⟨t, rfl, htl'.out⟩, ?_, grown_drewN.trans (grown_set _)⟩
        rw [← hql'.out]
        exact TrAt.set (h'.out.drew nq) q
set_option maxHeartbeats 1000000 in
theorem oneMore_yes {w : World} {g : Nat} {s : ByteArray} {p k : Nat} (h : TrAt w g s p (k + 1)) (hk : k ≤ 1000) :
    Calls Try.prog 76 #[.pointer (some ⟨g, 0, none⟩)] w fun e w' => e = .returned (.tuple #[]) ∧ TrAt w' g s p k ∧ w.grownBy w' (some g) := by
  have h' : Hid (TrAt w g s p (k + 1)) := h
  obtain ⟨z, hz⟩ : ∃ z : Int, z = ((k + 1 : Nat) : Int) := ⟨_, rfl⟩
  have c2 : w.cell? ⟨g, 2, none⟩ = some (.int .i64 z) := by rw [hz]; exact h.cell 2 rfl
  have f2 := h.unfrozen 2
  have h0 : ¬ z = 0 := by omega
  have h1 : z ≤ 1001 := by omega
  have h2 : 0 ≤ z := by omega
  have hz' : Hid (z - 1 = (k : Int)) := by show _ = _; omega
  clear h hz
  go_enter Try.func76, Try.ntmps76
  go_wp2_with fail
  go_end0
  refine ⟨rfl, ?_, grown_set _⟩
  rw [hz'.out]
  exact Box.set (i := 2) h'.out _
set_option maxHeartbeats 1000000 in
theorem oneMore_no {w : World} {g : Nat} {s : ByteArray} {p : Nat} (h : TrAt w g s p 0) :
    Calls Try.prog 76 #[.pointer (some ⟨g, 0, none⟩)] w fun e w' => e = .panicked gaveUp ∧ w.grownBy w' (some g) := by
  have c2 : w.cell? ⟨g, 2, none⟩ = some (.int .i64 0) := h.cell 2 rfl
  clear h
  go_enter Try.func76, Try.ntmps76
  go_wp2_with fail
  refine (giveUp_any _ _).mono ?_
  rintro e w2 ⟨rfl, rfl⟩
  go_wp2_with fail
  exact ⟨rfl, rfl, grown_refl _ _⟩
set_option maxHeartbeats 1000000 in
theorem end_yes {w : World} {g : Nat} {s : ByteArray} {k : Nat} (h : TrAt w g s s.size k) :
    Calls Try.prog 75 #[.pointer (some ⟨g, 0, none⟩)] w fun e w' => e = .returned (.tuple #[]) ∧ ∃ n, w' = w.drewN n := by
  have c0 := h.cell 0 rfl
  have c1 := h.cell 1 rfl
  clear h
  go_enter Try.func75, Try.ntmps75
  go_wp2_with fail
  go_quiet (fail)
  go_wp2_with fail
  go_end0
  exact ⟨rfl, nq, rfl⟩
set_option maxHeartbeats 1000000 in
theorem end_no {w : World} {g : Nat} {s : ByteArray} {p k : Nat} (h : TrAt w g s p k) (hp : p < s.size) :
    Calls Try.prog 75 #[.pointer (some ⟨g, 0, none⟩)] w fun e w' => e = .panicked gaveUp ∧ ∃ n, w' = w.drewN n := by
  have c0 := h.cell 0 rfl
  have c1 := h.cell 1 rfl
  have hne : ¬ (p : Int) = (s.size : Int) := by omega
  clear h
  go_enter Try.func75, Try.ntmps75
  go_wp2_with fail
  go_quiet (fail)
  go_wp2_with fail
  refine (giveUp_any _ _).mono ?_
  rintro e w2 ⟨rfl, rfl⟩
  go_wp2_with fail
  exact ⟨rfl, rfl, nq, rfl⟩
end Go.Proofs.Ytbodeijffpepfaa
