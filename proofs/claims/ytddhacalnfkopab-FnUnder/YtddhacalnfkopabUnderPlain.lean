/- The paths in a kid are those of the tree that go through it: plain facts. And sameInts, samePath, walked. -/
import Derived.Test.YtddhacalnfkopabPathsTop
import Derived.Test.YtddhacalnfkopabTakeLit
import Derived.Deep.QuietTactic
import Derived.BigQuiet
namespace Go.Proofs.Ytddhacalnfkopab
open Go.RowKit
theorem szF_room {H : Type} {f : DataW H → Int → Option Int} (hf : ∀ d r q r', f d r = some q → r ≤ r' → f d r' = some q) : ∀ (ds : List (DataW H)) (room room' size m : Int), room ≤ room' → szF f ds room size = some m → szF f ds room' size = some m := by
  intro ds
  induction ds with
  | nil => intro room room' size m _ h; simpa [szF] using h
  | cons d ds ih =>
    intro room room' size m hr h
    unfold szF at h ⊢
    split at h
    · cases h
    · rename_i q hq
      rw [hf _ _ _ (room' - size) hq (by omega)]
      exact ih _ _ _ _ hr h
theorem szD_room {H : Type} : ∀ (n : Nat) (d : DataW H) (room q room' : Int), szD n d room = some q → room ≤ room' → szD n d room' = some q := by
  intro n
  induction n with
  | zero => intro d room q room' h; simp [szD] at h
  | succ n ih =>
    intro d room q room' h hr
    unfold szD at h
    split at h
    · cases h
    · rename_i hc
      have hc' : ¬ (room' < 1 ∨ nameB (tagOf d) = false) := fun e => hc (Or.elim e (fun e => Or.inl (by omega)) Or.inr)
      unfold szD
      rw [if_neg hc']
      exact szF_room (fun d r q r' h1 h2 => ih d r q r' h1 h2) _ _ _ _ _ hr h
/-- a kid of a right tree is right, at the level below -/
theorem kid_ok {n : Nat} {d : TD} (h : okB (szD (n + 1) d 30) = true) {i : Nat} (hi : i < (kidsOf d).length) : okB (szD n (nth (kidsOf d) i) 30) = true := by
  cases e : szD (n + 1) d 30 with
  | none => rw [e] at h; cases h
  | some m =>
    unfold szD at e
    split at e
    · cases e
    · obtain ⟨r, q, e2, h2⟩ := szF_mem (szD_range n) _ _ _ _ (by omega) e i hi
      have e3 : nth (kidsOf d) i = (kidsOf d)[i] := by simp [nth, List.getD, List.getElem?_eq_getElem hi]
      rw [e3, szD_room n _ _ _ 30 e2 h2]; rfl
theorem pathsD_pre : ∀ (n : Nat) (d : TD) (a p : List Int), pathsD n d (a ++ p) = (pathsD n d p).map (a ++ ·) := by
  intro n
  induction n with
  | zero => intro d a p; rfl
  | succ n ih =>
    intro d a p
    rw [pathsD_succ, pathsD_succ, List.map_cons]
    congr 1
    have : ∀ j, pathsJ n d (a ++ p) j = (pathsJ n d p j).map (a ++ ·) := by
      intro j
      induction j with
      | zero => rfl
      | succ j ihj => rw [pathsJ_succ, pathsJ_succ, List.map_append, ihj, List.append_assoc, ih]
    exact this _
theorem pathsJ_split (n : Nat) (d : TD) (p : List Int) {i j : Nat} (h : i < j) : ∃ r, pathsJ n d p j = pathsJ n d p i ++ (pathsD n (nth (kidsOf d) i) (p ++ [(i : Int)]) ++ r) := by
  induction j with
  | zero => omega
  | succ j ih =>
    rw [pathsJ_succ]
    by_cases e : i = j
    · subst e; exact ⟨[], by simp⟩
    · obtain ⟨r, hr⟩ := ih (by omega)
      exact ⟨r ++ pathsD n (nth (kidsOf d) j) (p ++ [(j : Int)]), by rw [hr]; simp⟩
/-- where a kid's paths stand -/
theorem under_at {n : Nat} {d : TD} {i k : Nat} (hi : i < (kidsOf d).length) (hk : k < (pathsD n (nth (kidsOf d) i) []).length) :
    ∃ h : 1 + (pathsJ n d [] i).length + k < (pathsD (n + 1) d []).length, (pathsD (n + 1) d [])[1 + (pathsJ n d [] i).length + k] = (i : Int) :: (pathsD n (nth (kidsOf d) i) [])[k] := by
  obtain ⟨r, hr⟩ := pathsJ_split n d [] hi
  have hm : pathsD n (nth (kidsOf d) i) ([] ++ [(i : Int)]) = (pathsD n (nth (kidsOf d) i) []).map ([(i : Int)] ++ ·) := pathsD_pre n _ [(i : Int)] []
  rw [hm] at hr
  have hl : 1 + (pathsJ n d [] i).length + k < (pathsD (n + 1) d []).length := by
    rw [pathsD_succ, List.length_cons, hr]
    simp
    omega
  refine ⟨hl, ?_⟩
  have e : (pathsD (n + 1) d [])[1 + (pathsJ n d [] i).length + k]? = some ((i : Int) :: (pathsD n (nth (kidsOf d) i) [])[k]) := by
    rw [pathsD_succ, hr, show 1 + (pathsJ n d [] i).length + k = ((pathsJ n d [] i).length + k) + 1 by omega, List.getElem?_cons_succ, List.getElem?_append_right (by omega)]
    rw [show (pathsJ n d [] i).length + k - (pathsJ n d [] i).length = k by omega, List.getElem?_append_left (by simpa using hk), List.getElem?_map, List.getElem?_eq_getElem hk]
    rfl
  rw [List.getElem?_eq_getElem hl] at e
  exact Option.some.inj e
theorem belowN_drew {B : Nat} {a w : World} (h : Below B a w) (q : Nat) : Below B a (w.drewN q) := ⟨h.os, h.tape, h.output, h.size, h.block⟩
set_option maxHeartbeats 1000000 in
theorem sameInts_yes {w : World} {lo lo2 : Nat} {k k2 : Value} {xs : List Int} (hk : SeqAt 1 IntAt w lo k xs) (hk2 : SeqAt 1 IntAt w lo2 k2 xs) :
    Calls Try.prog 36 #[k, k2] w fun e w' => e = .returned (.bool true) ∧ ∃ m, w' = w.drewN m := by
  obtain ⟨a, cap, rfl, hm, hx⟩ := hk
  obtain ⟨a2, cap2, rfl, _, hx2⟩ := hk2
  unfold maxLen at hm
  have hx' : Hid (0 < xs.length → ∃ b off, a = some ⟨b, off, none⟩ ∧ lo ≤ b ∧ b < w.heap.size ∧ ∀ i, (h : i < xs.length) → ∃ cs, cs.length = 1 ∧ Lie w b (off + i * 1) cs ∧ IntAt w lo cs xs[i]) := hx
  have hx2' : Hid (0 < xs.length → ∃ b off, a2 = some ⟨b, off, none⟩ ∧ lo2 ≤ b ∧ b < w.heap.size ∧ ∀ i, (h : i < xs.length) → ∃ cs, cs.length = 1 ∧ Lie w b (off + i * 1) cs ∧ IntAt w lo2 cs xs[i]) := hx2
  clear hx hx2
  go_enter Try.func36, Try.ntmps36
  go_wp2_with fail
  go_loopw [5] (fun i wr => ∃ (j m : Nat), j ≤ xs.length ∧ i = .int .i64 j ∧ wr = w.drewN m) (fun i _ => xs.length - (intOf i).toNat)
  case atStart => exact ⟨0, 0, by omega, rfl, rfl⟩
  case round =>
    obtain ⟨j, m, hj, rfl, rfl⟩ := hrel
    by_cases hlt : j < xs.length
    · obtain ⟨b, off, rfl, hlo, hbw, hc⟩ := hx'.out (by omega)
      obtain ⟨b2, off2, rfl, hlo2, hbw2, hc2⟩ := hx2'.out (by omega)
      obtain ⟨cs, _, lie, rfl, hI⟩ := hc j hlt
      obtain ⟨cs2, _, lie2, rfl, _⟩ := hc2 j hlt
      have z0 := lie 0 (by simp)
      have y0 := lie2 0 (by simp)
      simp only [List.getElem?_cons_zero, Nat.add_zero, Nat.mul_one] at z0 y0
      generalize xs[j] = X at z0 y0
      have hlt' : (j : Int) < (xs.length : Int) := by omega
      have h0' : (0 : Int) ≤ (j : Int) := by omega
      clear lie lie2 hc hc2 hx' hx2' hI
      go_wp2_with fail
      go_quiet (fail)
      go_wp2_with fail
      go_roundw
      case rel => exact ⟨j + 1, m + nq, by omega, by go_num, by first | rfl | exact World.drewN_drewN _ _ _⟩
      case measure => simp [intOf]; omega
    · go_wp2_with fail
      go_ret
      exact ⟨rfl, m, rfl⟩
theorem samePath_yes {w : World} {lo lo2 : Nat} {k k2 : Value} {xs : List Int} (hk : SeqAt 1 IntAt w lo k xs) (hk2 : SeqAt 1 IntAt w lo2 k2 xs) :
    Calls Try.prog 14 #[k, k2] w fun e w' => e = .returned (.bool true) ∧ ∃ m, w' = w.drewN m := by
  have hk' : Hid (SeqAt 1 IntAt w lo k xs) := hk
  have hk2' : Hid (SeqAt 1 IntAt w lo2 k2 xs) := hk2
  obtain ⟨a, cap, rfl⟩ := hk.form
  obtain ⟨a2, cap2, rfl⟩ := hk2.form
  clear hk hk2
  go_enter Try.func14, Try.ntmps14
  go_wp2_with fail
  refine (sameInts_yes hk'.out hk2'.out).mono ?_
  rintro e w1 ⟨rfl, m, rfl⟩
  go_wp2_with fail
  go_ret
  exact ⟨rfl, m, rfl⟩
theorem big_no {w : World} {a : Option Addr} {n cap : Nat} (h : n ≤ 1048576) : Calls Try.prog 9 #[.slice a n cap] w fun e w' => e = .returned (.bool false) ∧ w' = w := by
  have h' : ¬ (1048576 : Int) < (n : Int) := by omega
  go_enter Try.func9, Try.ntmps9
  go_wp2_with fail
  go_ret
  exact ⟨rfl, rfl⟩
end Go.Proofs.Ytddhacalnfkopab
