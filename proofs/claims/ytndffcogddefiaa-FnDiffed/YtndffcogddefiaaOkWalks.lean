/- How many nodes a tree has, within so much room: plain facts. -/
import Derived.Test.YtndffcogddefiaaTrees
import Derived.Test.YtndffcogddefiaaNameWalks
import Derived.Test.YtndffcogddefiaaRows
import Derived.WalkKit
namespace Go.Proofs.Ytndffcogddefiaa
/-- the sizes of all these, one behind the other, on top of 'size', within 'room' -/
def szF {H : Type} (f : DataW H → Int → Option Int) : List (DataW H) → Int → Int → Option Int
  | [], _, size => some size
  | d :: ds, room, size => match f d (room - size) with
    | none => none
    | some m => szF f ds room (size + m)
/-- how many nodes a tree has; none: a tag is none, or there are more than 'room' -/
def szD {H : Type} : Nat → DataW H → Int → Option Int
  | 0, _, _ => none
  | n + 1, d, room => if room < 1 ∨ nameB (tagOf d) = false then none else szF (szD n) (kidsOf d) room 1
def resI : Option Int → Int
  | none => -1
  | some m => m
theorem szF_range {H : Type} {f : DataW H → Int → Option Int} (hf : ∀ d room m, f d room = some m → 1 ≤ m ∧ m ≤ room) : ∀ (ds : List (DataW H)) (room size m : Int), 1 ≤ size → size ≤ room → szF f ds room size = some m → 1 ≤ m ∧ m ≤ room := by
  intro ds
  induction ds with
  | nil => intro room size m h1 h2 h; simp [szF] at h; omega
  | cons d ds ih =>
    intro room size m h1 h2 h
    unfold szF at h
    split at h
    · cases h
    · rename_i q hq
      have := hf _ _ _ hq
      exact ih room (size + q) m (by omega) (by omega) h
theorem szD_range {H : Type} : ∀ (n : Nat) (d : DataW H) (room m : Int), szD n d room = some m → 1 ≤ m ∧ m ≤ room := by
  intro n
  induction n with
  | zero => intro d room m h; simp [szD] at h
  | succ n ih =>
    intro d room m h
    unfold szD at h
    split at h
    · cases h
    · rename_i hc
      exact szF_range ih _ room 1 m (by omega) (by omega) h
theorem drop_nth {H : Type} (ds : List (DataW H)) (j : Nat) (h : j < ds.length) : ds.drop j = nth ds j :: ds.drop (j + 1) := by
  rw [List.drop_eq_getElem_cons h]; simp [nth, List.getD, List.getElem?_eq_getElem h]
theorem szF_none {H : Type} {f : DataW H → Int → Option Int} {ds : List (DataW H)} {j : Nat} (hj : j < ds.length) {room size : Int} (h : f (nth ds j) (room - size) = none) : szF f (ds.drop j) room size = none := by
  rw [drop_nth ds j hj]; unfold szF; rw [h]
theorem szF_some {H : Type} {f : DataW H → Int → Option Int} {ds : List (DataW H)} {j : Nat} (hj : j < ds.length) {room size m : Int} (h : f (nth ds j) (room - size) = some m) : szF f (ds.drop j) room size = szF f (ds.drop (j + 1)) room (size + m) := by
  rw [drop_nth ds j hj]; unfold szF; rw [h]
  cases ds.drop (j + 1) <;> rfl
theorem szF_end {H : Type} {f : DataW H → Int → Option Int} {ds : List (DataW H)} {j : Nat} (hj : ¬ j < ds.length) {room size : Int} : szF f (ds.drop j) room size = some size := by
  rw [List.drop_of_length_le (by omega)]; rfl
theorem szD_no {H : Type} {n : Nat} {d : DataW H} {room : Int} (h : room < 1 ∨ nameB (tagOf d) = false) : szD (n + 1) d room = none := by unfold szD; rw [if_pos h]
theorem szD_yes {H : Type} {n : Nat} {d : DataW H} {room : Int} (h1 : 1 ≤ room) (h2 : nameB (tagOf d) = true) : szD (n + 1) d room = szF (szD n) (kidsOf d) room 1 := by
  unfold szD; rw [if_neg (by rw [h2]; simp; omega)]
end Go.Proofs.Ytndffcogddefiaa
namespace Go.Proofs.Ytndffcogddefiaa
open Go.RowKit
def L1S {H : Type} (n : Nat) : Prop := ∀ (w : World) (lo : Nat) (t k : Value) (d : DataW H) (room : Int), TreeAt w lo n t k d → 0 ≤ room → room ≤ 30 →
  Calls Try.prog 51 #[.agg #[t, k], .int .i64 room] w fun e w' => e = .returned (.int .i64 (resI (szD n d room))) ∧ Below w.heap.size w w'
set_option maxHeartbeats 400000 in
theorem l1S_of {H : Type} (n : Nat) (h21 : L1S (H := H) n) : L1S (H := H) (n + 1) := by
  intro w lo t k d room ht h0 h1
  obtain ⟨⟨s, rfl, hs, htag⟩, hrow⟩ := ht
  have hs' : Hid (s.size ≤ maxLen) := hs
  obtain ⟨a, cap, rfl, hm, hx⟩ := hrow
  have hx' : Hid _ := hx
  unfold maxLen at hm
  have h21' : Hid (L1S (H := H) n) := h21
  clear hs h21 hx
  have hb0 : Below w.heap.size w (w.alloc (.cells #[.string s, .slice a (kidsOf d).length cap] 26)) := (Below.refl _ _).alloc (Nat.le_refl _) _
  cases hn : nameB (tagOf d)
  · have H1 : Hid (szD (n + 1) d room = none) := szD_no (.inr hn)
    rw [htag] at hn
    clear htag
    go_enter Try.func51, Try.ntmps51
    go_wp2_with fail
    refine (specNameOk_any s _ hs'.out).mono ?_
    rintro e w1 ⟨rfl, rfl⟩
    rw [hn]
    go_wp2_with fail
    go_ret
    exact ⟨by rw [H1.out]; rfl, hb0⟩
  by_cases hr : room < 1
  · have H1 : Hid (szD (n + 1) d room = none) := szD_no (.inl hr)
    rw [htag] at hn
    clear htag
    go_enter Try.func51, Try.ntmps51
    go_wp2_with fail
    refine (specNameOk_any s _ hs'.out).mono ?_
    rintro e w1 ⟨rfl, rfl⟩
    rw [hn]
    go_wp2_with fail
    go_ret
    exact ⟨by rw [H1.out]; rfl, hb0⟩
  have H1 : Hid (szD (n + 1) d room = szF (szD n) (kidsOf d) room 1) := szD_yes (by omega) hn
  rw [htag] at hn
  clear htag
  go_enter Try.func51, Try.ntmps51
  go_wp2_with fail
  refine (specNameOk_any s _ hs'.out).mono ?_
  rintro e w1 ⟨rfl, rfl⟩
  rw [hn]
  go_wp2_with fail
  go_loopw [5, 6, 7] (fun z i q wr => ∃ (j : Nat) (m : Int), j ≤ (kidsOf d).length ∧ i = .int .i64 j ∧ z = .int .i64 m ∧ 1 ≤ m ∧ m ≤ room ∧ Below (w.heap.size + 1) (w.alloc (.cells #[.string s, .slice a (kidsOf d).length cap] 26)) wr ∧
      Hid (szF (szD n) (kidsOf d) room 1 = szF (szD n) ((kidsOf d).drop j) room m)) (fun _ i _ _ => (kidsOf d).length - (intOf i).toNat)
  case atStart => exact ⟨0, 1, by omega, rfl, rfl, by omega, by omega, Below.refl _ _, rfl⟩
  case round =>
    obtain ⟨j, m, hj, rfl, rfl, hm1, hm2, hb, hsz⟩ := hrel
    have hcell : wr.cell? ⟨w.heap.size, 1, none⟩ = some (.slice a (kidsOf d).length cap) := by rw [hb.cell (by simp)]; simp [go_sem]
    have hbw : Below w.heap.size w wr := hb0.trans (hb.mono (by omega))
    by_cases hlt : j < (kidsOf d).length
    · obtain ⟨b, off, rfl, hlo, hbb, hc⟩ := hx'.out (by omega)
      obtain ⟨t', k', c1, c2, ht⟩ := hc j hlt
      have q1 : wr.cell? ⟨b, off + j * 2, none⟩ = some t' := (hbw.cell (p := ⟨b, off + j * 2, none⟩) hbb).trans c1
      have q2 : wr.cell? ⟨b, off + j * 2 + 1, none⟩ = some k' := (hbw.cell (p := ⟨b, off + j * 2 + 1, none⟩) hbb).trans c2
      have ht' : Hid (TreeAt wr lo n t' k' (nth (kidsOf d) j)) := TreeAt.below ht hbw
      clear hc c1 c2 ht hx'
      go_wp2_with fail
      refine (h21'.out _ lo t' k' (nth (kidsOf d) j) _ ht'.out (by omega) (by omega)).mono ?_
      rintro e w1 ⟨rfl, hb1⟩
      have hB : Below (w.heap.size + 1) (w.alloc (.cells #[.string s, .slice (some ⟨b, off, none⟩) (kidsOf d).length cap] 26)) w1 := hb.trans (hb1.mono (by have := hb.size; simpa using this))
      clear q1 q2 hcell
      cases hq : szD n (nth (kidsOf d) j) (room - m) with
      | none =>
        have H2 : Hid _ := szF_none hlt hq
        clear hq
        go_wp2_with fail
        go_ret
        refine ⟨?_, hb0.trans (hB.mono (by omega))⟩
        rw [H1.out, hsz.out, H2.out]; rfl
      | some q =>
        have H2 : Hid _ := szF_some hlt hq
        have hqr := szD_range _ _ _ _ hq
        clear hq
        rw [show resI (some q) = q from rfl]
        go_wp2_with fail
        go_roundw
        case rel => exact ⟨j + 1, m + q, by omega, by go_num, rfl, by omega, by omega, hB, by show _ = _; rw [hsz.out, H2.out]⟩
        case measure => simp [intOf]; omega
    · have H2 : Hid _ := szF_end (f := szD n) (room := room) (size := m) hlt
      go_wp2_with fail
      go_ret
      refine ⟨?_, hbw⟩
      rw [H1.out, hsz.out, H2.out]; rfl
theorem l1S_all {H : Type} : ∀ n, L1S (H := H) n := by
  intro n
  induction n with
  | zero => exact fun _ _ _ _ _ _ h _ _ => h.elim
  | succ n ih => exact l1S_of n ih
end Go.Proofs.Ytndffcogddefiaa
namespace Go.Proofs.Ytndffcogddefiaa
open Go.RowKit
def resP : Option Int → Value
  | none => .tuple #[.int .i64 0, .bool false]
  | some m => .tuple #[.int .i64 m, .bool true]
def SwS {H : Type} (n : Nat) : Prop := ∀ (w : World) (lo : Nat) (t k : Value) (d : DataW H) (room : Int), TreeAt w lo n t k d → 0 ≤ room → room ≤ 30 →
  Calls Try.prog 34 #[.agg #[t, k], .int .i64 room] w fun e w' => e = .returned (resP (szD n d room)) ∧ Below w.heap.size w w'
set_option maxHeartbeats 400000 in
theorem swS_of {H : Type} (n : Nat) (h23 : SwS (H := H) n) : SwS (H := H) (n + 1) := by
  intro w lo t k d room ht h0 h1
  obtain ⟨⟨s, rfl, hs, htag⟩, hrow⟩ := ht
  have hs' : Hid (s.size ≤ maxLen) := hs
  obtain ⟨a, cap, rfl, hm, hx⟩ := hrow
  have hx' : Hid _ := hx
  unfold maxLen at hm
  have h23' : Hid (SwS (H := H) n) := h23
  clear hs h23 hx
  have hb0 : Below w.heap.size w (w.alloc (.cells #[.string s, .slice a (kidsOf d).length cap] 26)) := (Below.refl _ _).alloc (Nat.le_refl _) _
  by_cases hr : room < 1
  · have H1 : Hid (szD (n + 1) d room = none) := szD_no (.inl hr)
    clear htag
    go_enter Try.func34, Try.ntmps34
    go_wp2_with fail
    go_ret2
    exact ⟨by rw [H1.out]; rfl, hb0⟩
  cases hn : nameB (tagOf d)
  · have H1 : Hid (szD (n + 1) d room = none) := szD_no (.inr hn)
    rw [htag] at hn
    clear htag
    go_enter Try.func34, Try.ntmps34
    go_wp2_with fail
    refine (implNameOk_any s _ hs'.out).mono ?_
    rintro e w1 ⟨rfl, rfl⟩
    rw [hn]
    go_wp2_with fail
    go_ret2
    exact ⟨by rw [H1.out]; rfl, hb0⟩
  have H1 : Hid (szD (n + 1) d room = szF (szD n) (kidsOf d) room 1) := szD_yes (by omega) hn
  rw [htag] at hn
  clear htag
  go_enter Try.func34, Try.ntmps34
  go_wp2_with fail
  refine (implNameOk_any s _ hs'.out).mono ?_
  rintro e w1 ⟨rfl, rfl⟩
  rw [hn]
  go_wp2_with fail
  go_loopw [6, 22] (fun z i wr => ∃ (j : Nat) (m : Int), j ≤ (kidsOf d).length ∧ i = .int .i64 j ∧ z = .int .i64 m ∧ 1 ≤ m ∧ m ≤ room ∧ Below (w.heap.size + 1) (w.alloc (.cells #[.string s, .slice a (kidsOf d).length cap] 26)) wr ∧
      Hid (szF (szD n) (kidsOf d) room 1 = szF (szD n) ((kidsOf d).drop j) room m)) (fun _ i _ => (kidsOf d).length - (intOf i).toNat)
  case atStart => exact ⟨0, 1, by omega, rfl, rfl, by omega, by omega, Below.refl _ _, rfl⟩
  case round =>
    obtain ⟨j, m, hj, rfl, rfl, hm1, hm2, hb, hsz⟩ := hrel
    have hbw : Below w.heap.size w wr := hb0.trans (hb.mono (by omega))
    by_cases hlt : j < (kidsOf d).length
    · obtain ⟨b, off, rfl, hlo, hbb, hc⟩ := hx'.out (by omega)
      obtain ⟨t', k', c1, c2, ht⟩ := hc j hlt
      have q1 : wr.cell? ⟨b, off + j * 2, none⟩ = some t' := (hbw.cell (p := ⟨b, off + j * 2, none⟩) hbb).trans c1
      have q2 : wr.cell? ⟨b, off + j * 2 + 1, none⟩ = some k' := (hbw.cell (p := ⟨b, off + j * 2 + 1, none⟩) hbb).trans c2
      have ht0 : TreeAt wr lo n t' k' (nth (kidsOf d) j) := TreeAt.below ht hbw
      obtain ⟨⟨s1, rfl⟩, a1, cap1, rfl⟩ := ht0.form
      have ht' : Hid (TreeAt wr lo n _ _ (nth (kidsOf d) j)) := ht0
      clear hc c1 c2 ht ht0 hx'
      go_wp2_with fail
      have hbr : Below wr.heap.size wr (wr.alloc (.cells #[.string s1, .slice a1 (kidsOf (nth (kidsOf d) j)).length cap1] 26)) := (Below.refl _ _).alloc (Nat.le_refl _) _
      refine (h23'.out _ lo _ _ (nth (kidsOf d) j) _ (ht'.out.below hbr) (by omega) (by omega)).mono ?_
      rintro e w1 ⟨rfl, hb1⟩
      have hB1 : Below wr.heap.size wr w1 := hbr.trans (hb1.mono hbr.size)
      have hB : Below (w.heap.size + 1) (w.alloc (.cells #[.string s, .slice (some ⟨b, off, none⟩) (kidsOf d).length cap] 26)) w1 := hb.trans (hB1.mono (by have := hb.size; simpa using this))
      clear q1 q2 hb1 hbr hB1
      cases hq : szD n (nth (kidsOf d) j) (room - m) with
      | none =>
        have H2 : Hid _ := szF_none hlt hq
        clear hq
        rw [show resP none = .tuple #[.int .i64 0, .bool false] from rfl]
        go_wp2_with fail
        go_ret2
        refine ⟨?_, hb0.trans (hB.mono (by omega))⟩
        rw [H1.out, hsz.out, H2.out]; rfl
      | some q =>
        have H2 : Hid _ := szF_some hlt hq
        have hqr := szD_range _ _ _ _ hq
        clear hq
        rw [show resP (some q) = .tuple #[.int .i64 q, .bool true] from rfl]
        go_wp2_with fail
        go_roundw
        case rel => exact ⟨j + 1, m + q, by omega, by go_num, rfl, by omega, by omega, hB, by show _ = _; rw [hsz.out, H2.out]⟩
        case measure => simp [intOf]; omega
    · have H2 : Hid _ := szF_end (f := szD n) (room := room) (size := m) hlt
      go_wp2_with fail
      go_ret2
      refine ⟨?_, hbw⟩
      rw [H1.out, hsz.out, H2.out]; rfl
theorem swS_all {H : Type} : ∀ n, SwS (H := H) n := by
  intro n
  induction n with
  | zero => exact fun _ _ _ _ _ _ h _ _ => h.elim
  | succ n ih => exact swS_of n ih
end Go.Proofs.Ytndffcogddefiaa
namespace Go.Proofs.Ytndffcogddefiaa
open Go.RowKit
def okB : Option Int → Bool
  | none => false
  | some _ => true
set_option maxHeartbeats 400000 in
theorem specTreeOk_any {H : Type} {n : Nat} {w : World} {lo : Nat} {t k : Value} {d : DataW H} (ht : TreeAt w lo n t k d) :
    Calls Try.prog 29 #[.agg #[t, k]] w fun e w' => e = .returned (.bool (okB (szD n d 30))) ∧ Below w.heap.size w w' := by
  have hb0 : Below w.heap.size w (w.alloc (.cells #[t, k] 26)) := (Below.refl _ _).alloc (Nat.le_refl _) _
  have ht' : Hid _ := ht.below hb0
  clear ht
  go_enter Try.func29, Try.ntmps29
  go_wp2_with fail
  refine (l1S_all n _ lo _ _ d _ ht'.out (by omega) (by omega)).mono ?_
  rintro e w1 ⟨rfl, hb1⟩
  cases hq : szD n d 30 with
  | none =>
    rw [show resI none = -1 from rfl]
    have HQ : Hid _ := hq
    clear hq
    go_wp2_with fail
    go_ret
    exact ⟨by rw [HQ.out]; rfl, hb0.trans (hb1.mono hb0.size)⟩
  | some q =>
    have hqr := szD_range _ _ _ _ hq
    have HQ : Hid _ := hq
    clear hq
    rw [show resI (some q) = q from rfl]
    have hp : 0 < q := by omega
    go_wp2_with fail
    go_ret
    refine ⟨?_, hb0.trans (hb1.mono hb0.size)⟩
    rw [HQ.out]
    simp [okB]
set_option maxHeartbeats 400000 in
theorem implTreeOk_any {H : Type} {n : Nat} {w : World} {lo : Nat} {t k : Value} {d : DataW H} (ht : TreeAt w lo n t k d) :
    Calls Try.prog 16 #[.agg #[t, k]] w fun e w' => e = .returned (.bool (okB (szD n d 30))) ∧ Below w.heap.size w w' := by
  have hb0 : Below w.heap.size w (w.alloc (.cells #[t, k] 26)) := (Below.refl _ _).alloc (Nat.le_refl _) _
  have ht' : Hid _ := ht.below hb0
  clear ht
  go_enter Try.func16, Try.ntmps16
  go_wp2_with fail
  refine (swS_all n _ lo _ _ d _ ht'.out (by omega) (by omega)).mono ?_
  rintro e w1 ⟨rfl, hb1⟩
  cases hq : szD n d 30 with
  | none =>
    rw [show resP none = .tuple #[.int .i64 0, .bool false] from rfl]
    have HQ : Hid _ := hq
    clear hq
    go_wp2_with fail
    go_ret
    exact ⟨by rw [HQ.out]; rfl, hb0.trans (hb1.mono hb0.size)⟩
  | some q =>
    have HQ : Hid _ := hq
    clear hq
    rw [show resP (some q) = .tuple #[.int .i64 q, .bool true] from rfl]
    go_wp2_with fail
    go_ret
    exact ⟨by rw [HQ.out]; rfl, hb0.trans (hb1.mono hb0.size)⟩
end Go.Proofs.Ytndffcogddefiaa
