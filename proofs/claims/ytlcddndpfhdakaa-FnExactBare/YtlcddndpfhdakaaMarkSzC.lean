/- How great a mark is by the laws' szMark: no list of it is too long, and it has few parts. -/
import Derived.Test.YtlcddndpfhdakaaMarkSz
import Derived.Test.YtlcddndpfhdakaaMarkMarks
namespace Go.Proofs.Ytlcddndpfhdakaa
open Go.RowKit
/-- how many parts there are below it -/
def belowM : Nat → MarkD → Nat
  | 0, _ => 0
  | n + 1, x => cntL cntAttr x.vAttrs + cntL (cntMark n) x.vKids
theorem cnt_belowM {n : Nat} {w : World} {lo : Nat} {cs : List Value} {x : MarkD} (h : MarkAt n w lo cs x) : cntMark n x = 2 + belowM n x := by
  cases n with
  | zero => exact h.elim
  | succ n => simp only [cntMark, belowM]; omega
theorem cntL_attr (xs : List AttrD) : cntL cntAttr xs = 2 * xs.length := by
  have : ∀ j, j ≤ xs.length → pos cntAttr xs j = 2 * j := by
    intro j
    induction j with
    | zero => intro _; rw [pos_zero]
    | succ j ih => intro h; rw [pos_succ (by omega), ih (by omega)]; simp only [cntAttr]; omega
  exact this _ (Nat.le_refl _)
set_option maxHeartbeats 800000 in
theorem szCAttrS_any {w : World} {lo : Nat} {k : Value} {xs : List AttrD} {left : Int} (hk : SeqAt 2 AttrAt w lo k xs) (h0 : 0 ≤ left) (h1 : left ≤ 1048576) :
    Calls Try.prog 13 #[k, .int .i64 left] w fun e w' => (∃ r : Int, e = .returned (.int .i64 r) ∧ r ≤ left ∧ -1 ≤ r ∧ (r < 0 ∨ (AllS AttrD.small xs ∧ r + (xs.length : Int) ≤ left))) ∧ Below w.heap.size w w' := by
  obtain ⟨a, cap, rfl, hm, hx⟩ := hk
  unfold maxLen at hm
  by_cases hneg : left - (xs.length : Int) < 0
  · clear hx
    go_enter Try.func13, Try.ntmps13
    go_wp2_with fail
    go_ret
    exact ⟨⟨-1, rfl, by omega, by omega, Or.inl (by omega)⟩, Below.refl _ _⟩
  · have hx' : Hid _ := hx
    clear hx
    go_enter Try.func13, Try.ntmps13
    go_wp2_with fail
    go_loopw [1, 5] (fun l i wr => ∃ (j : Nat) (r : Int), j ≤ xs.length ∧ i = .int .i64 j ∧ l = .int .i64 r ∧ 0 ≤ r ∧ r ≤ left - (xs.length : Int) ∧ Below w.heap.size w wr ∧ Hid (∀ i', (h : i' < xs.length) → i' < j → AttrD.small xs[i'])) (fun _ i _ => xs.length - (intOf i).toNat)
    case atStart => exact ⟨0, left - xs.length, by omega, rfl, rfl, by omega, by omega, Below.refl _ _, fun i' _ h => absurd h (by omega)⟩
    case round =>
      obtain ⟨j, r, hj, rfl, rfl, hr0, hr1, hb, hs⟩ := hrel
      by_cases hlt : j < xs.length
      · obtain ⟨b, off, rfl, hlo, hbw, hc⟩ := hx'.out (by omega)
        obtain ⟨cs, hcl, lie, hr⟩ := hc j hlt
        have lie1 := Lie.keep (lo := lo) (lo' := lo) lie (.of_below hb) hlo hbw
        have hr2 := AttrAt_stays _ _ _ lo _ _ (.of_below hb) hr
        generalize hX : xs[j] = X at hr2
        have hX' : Hid _ := hX
        have hr3 : Hid (AttrAt wr lo cs X) := hr2
        clear hX hr lie hc
        obtain ⟨rfl, rName, rValue, _⟩ := hr2
        clear rName rValue
        have z0 := lie1 0 (by simp)
        have z1 := lie1 1 (by simp)
        simp only [List.getElem?_cons_zero, List.getElem?_cons_succ, Nat.add_zero] at z0 z1
        clear lie1 hcl hx'
        go_wp2_with fail
        refine (szAttr_any hr3.out hr0 (by omega)).mono ?_
        rintro e w1 ⟨⟨r', rfl, hr', hr'', hsm⟩, hb1⟩
        have hb' : Below w.heap.size w w1 := hb.trans (hb1.mono hb.size)
        have hsm' : Hid (r' < 0 ∨ AttrD.small X) := hsm
        clear hsm z0 z1
        by_cases hneg' : r' < 0
        · go_wp2_with fail
          go_ret
          exact ⟨⟨-1, rfl, by omega, by omega, Or.inl (by omega)⟩, hb'⟩
        · go_wp2_with fail
          go_roundw
          case rel => exact ⟨j + 1, r', by omega, by go_num, rfl, by omega, by omega, hb', fun i' h hi' => by
            by_cases e : i' < j
            · exact hs.out i' h e
            · have e' : i' = j := by omega
              subst e'
              rw [hX'.out]
              exact hsm'.out.resolve_left (by omega)⟩
          case measure => simp [intOf]; omega
      · go_wp2_with fail
        go_ret
        exact ⟨⟨r, rfl, by omega, by omega, Or.inr ⟨⟨by omega, fun i h => hs.out i h (by omega)⟩, by omega⟩⟩, hb⟩
def SzCM (n : Nat) : Prop := ∀ (w : World) (lo : Nat) (cs : List Value) (x : MarkD) (left : Int), MarkAt n w lo cs x → 0 ≤ left → left ≤ 1048576 →
    Calls Try.prog 4 #[.agg cs.toArray, .int .i64 left] w fun e w' => (∃ r : Int, e = .returned (.int .i64 r) ∧ r ≤ left ∧ -1 ≤ r ∧ (r < 0 ∨ (MarkD.small n x ∧ 2 * r + (belowM n x : Int) ≤ 2 * left))) ∧ Below w.heap.size w w'
def SzCMS (n : Nat) : Prop := ∀ (w : World) (lo : Nat) (k : Value) (xs : List MarkD) (left : Int), SeqAt 4 (MarkAt n) w lo k xs → 0 ≤ left → left ≤ 1048576 →
    Calls Try.prog 14 #[k, .int .i64 left] w fun e w' => (∃ r : Int, e = .returned (.int .i64 r) ∧ r ≤ left ∧ -1 ≤ r ∧ (r < 0 ∨ (AllS (MarkD.small n) xs ∧ 2 * r + (cntL (cntMark n) xs : Int) ≤ 2 * left))) ∧ Below w.heap.size w w'
set_option maxHeartbeats 800000 in
theorem szCMark_of {n : Nat} (hK : Hid (SzCMS n)) {w : World} {lo : Nat} {cs : List Value} {x : MarkD} {left : Int} (hx : MarkAt (n + 1) w lo cs x) (h0 : 0 ≤ left) (h1 : left ≤ 1048576) :
    Calls Try.prog 4 #[.agg cs.toArray, .int .i64 left] w fun e w' => (∃ r : Int, e = .returned (.int .i64 r) ∧ r ≤ left ∧ -1 ≤ r ∧ (r < 0 ∨ (MarkD.small (n + 1) x ∧ 2 * r + (belowM (n + 1) x : Int) ≤ 2 * left))) ∧ Below w.heap.size w w' := by
  obtain ⟨k2, k3, rfl, s2, s3, rTag, rText, _⟩ := hx
  unfold maxLen at rTag
  unfold maxLen at rText
  have s2' : Hid (SeqAt 2 AttrAt w lo k2 x.vAttrs) := s2
  obtain ⟨a2, cap2, rfl⟩ := s2.form
  clear s2
  have s3' : Hid (SeqAt 4 (MarkAt n) w lo k3 x.vKids) := s3
  obtain ⟨a3, cap3, rfl⟩ := s3.form
  clear s3
  have hb0 : Below w.heap.size w (w.alloc (.cells (List.toArray [.string x.vTag, .string x.vText, .slice a2 x.vAttrs.length cap2, .slice a3 x.vKids.length cap3]) 25)) := (Below.refl _ _).alloc (Nat.le_refl _) _
  have bx0 : Hid (Box (w.alloc (.cells (List.toArray [.string x.vTag, .string x.vText, .slice a2 x.vAttrs.length cap2, .slice a3 x.vKids.length cap3]) 25)) w.heap.size [.string x.vTag, .string x.vText, .slice a2 x.vAttrs.length cap2, .slice a3 x.vKids.length cap3] 25) := Box.new w _ _
  by_cases n0 : (left - (x.vTag.size : Int)) < 0
  · go_enter Try.func4, Try.ntmps4
    go_wp2_with fail
    go_ret
    exact ⟨⟨-1, rfl, by omega, by omega, Or.inl (by omega)⟩, hb0⟩
  by_cases n1 : ((left - (x.vTag.size : Int)) - (x.vText.size : Int)) < 0
  · go_enter Try.func4, Try.ntmps4
    go_wp2_with fail
    go_ret
    exact ⟨⟨-1, rfl, by omega, by omega, Or.inl (by omega)⟩, hb0⟩
  go_enter Try.func4, Try.ntmps4
  go_wp2_with fail
  refine (szCAttrS_any (s2'.out.below AttrAt_stays hb0) (by omega) (by omega)).mono ?_
  rintro e u2 ⟨⟨r2, rfl, p2, q2, m2⟩, hbc⟩
  have hb3 : Below w.heap.size w u2 := hb0.trans (hbc.mono hb0.size)
  have bx3 : Hid (Box u2 w.heap.size [.string x.vTag, .string x.vText, .slice a2 x.vAttrs.length cap2, .slice a3 x.vKids.length cap3] 25) := bx0.out.below hbc bx0.out.lt
  have t2_0 := bx3.out.cell 0 rfl
  have t2_1 := bx3.out.cell 1 rfl
  have t2_2 := bx3.out.cell 2 rfl
  have t2_3 := bx3.out.cell 3 rfl
  have m2' : Hid (r2 < 0 ∨ (AllS AttrD.small x.vAttrs ∧ r2 + (x.vAttrs.length : Int) ≤ left - (x.vTag.size : Int) - (x.vText.size : Int))) := m2
  clear m2 hbc
  by_cases n2 : r2 < 0
  · go_wp2_with fail
    go_ret
    exact ⟨⟨-1, rfl, by omega, by omega, Or.inl (by omega)⟩, hb3⟩
  go_wp2_with fail
  refine (hK.out _ lo _ _ _ (s3'.out.below (MarkAt_stays n) hb3) (by omega) (by omega)).mono ?_
  rintro e u3 ⟨⟨r3, rfl, p3, q3, m3⟩, hbc⟩
  have hb4 : Below w.heap.size w u3 := hb3.trans (hbc.mono hb3.size)
  have bx4 : Hid (Box u3 w.heap.size [.string x.vTag, .string x.vText, .slice a2 x.vAttrs.length cap2, .slice a3 x.vKids.length cap3] 25) := bx3.out.below hbc bx3.out.lt
  have t3_0 := bx4.out.cell 0 rfl
  have t3_1 := bx4.out.cell 1 rfl
  have t3_2 := bx4.out.cell 2 rfl
  have t3_3 := bx4.out.cell 3 rfl
  have m3' : Hid (r3 < 0 ∨ (AllS (MarkD.small n) x.vKids ∧ 2 * r3 + (cntL (cntMark n) x.vKids : Int) ≤ 2 * r2)) := m3
  clear m3 hbc t2_0 t2_1 t2_2 t2_3
  by_cases n3 : r3 < 0
  · go_wp2_with fail
    go_ret
    exact ⟨⟨-1, rfl, by omega, by omega, Or.inl (by omega)⟩, hb4⟩
  go_wp2_with fail
  go_ret
  exact ⟨⟨r3, rfl, by omega, by omega, Or.inr ⟨⟨by omega, by omega, (m2'.out.resolve_left (by omega)).1, (m3'.out.resolve_left (by omega)).1, trivial⟩, by have e1 := (m2'.out.resolve_left (by omega)).2; have e2 := (m3'.out.resolve_left (by omega)).2; have e3 := cntL_attr x.vAttrs; simp only [belowM]; omega⟩⟩, hb4⟩
set_option maxHeartbeats 800000 in
theorem szCMarkS_of {n : Nat} (hM : Hid (SzCM n)) {w : World} {lo : Nat} {k : Value} {xs : List MarkD} {left : Int} (hk : SeqAt 4 (MarkAt n) w lo k xs) (h0 : 0 ≤ left) (h1 : left ≤ 1048576) :
    Calls Try.prog 14 #[k, .int .i64 left] w fun e w' => (∃ r : Int, e = .returned (.int .i64 r) ∧ r ≤ left ∧ -1 ≤ r ∧ (r < 0 ∨ (AllS (MarkD.small n) xs ∧ 2 * r + (cntL (cntMark n) xs : Int) ≤ 2 * left))) ∧ Below w.heap.size w w' := by
  obtain ⟨a, cap, rfl, hm, hx⟩ := hk
  unfold maxLen at hm
  by_cases hneg : left - (xs.length : Int) < 0
  · clear hx
    go_enter Try.func14, Try.ntmps14
    go_wp2_with fail
    go_ret
    exact ⟨⟨-1, rfl, by omega, by omega, Or.inl (by omega)⟩, Below.refl _ _⟩
  · have hx' : Hid _ := hx
    clear hx
    go_enter Try.func14, Try.ntmps14
    go_wp2_with fail
    go_loopw [1, 5] (fun l i wr => ∃ (j : Nat) (r : Int), j ≤ xs.length ∧ i = .int .i64 j ∧ l = .int .i64 r ∧ 0 ≤ r ∧ r ≤ left ∧ Below w.heap.size w wr ∧ Hid (2 * r + (pos (cntMark n) xs j : Int) + 2 * (xs.length : Int) ≤ 2 * left + 2 * (j : Int)) ∧ Hid (∀ i', (h : i' < xs.length) → i' < j → MarkD.small n xs[i'])) (fun _ i _ => xs.length - (intOf i).toNat)
    case atStart => exact ⟨0, left - xs.length, by omega, rfl, rfl, by omega, by omega, Below.refl _ _, by show _ ≤ _; rw [pos_zero]; omega, fun i' _ h => absurd h (by omega)⟩
    case round =>
      obtain ⟨j, r, hj, rfl, rfl, hr0, hr1, hb, hcn, hs⟩ := hrel
      by_cases hlt : j < xs.length
      · obtain ⟨b, off, rfl, hlo, hbw, hc⟩ := hx'.out (by omega)
        obtain ⟨cs, hcl, lie, hr⟩ := hc j hlt
        have lie1 := Lie.keep (lo := lo) (lo' := lo) lie (.of_below hb) hlo hbw
        have hr2 := (MarkAt_stays n) _ _ _ lo _ _ (.of_below hb) hr
        have hp2 : pos (cntMark n) xs (j + 1) = pos (cntMark n) xs j + (2 + belowM n xs[j]) := by rw [pos_succ hlt, cnt_belowM hr]
        generalize hX : xs[j] = X at hr2 hp2
        have hp3 : Hid _ := hp2
        clear hp2
        have hX' : Hid _ := hX
        have hr3 : Hid (MarkAt n wr lo cs X) := hr2
        clear hX hr lie hc
        obtain ⟨k2, k3, rfl, s2, s3, rTag, rText, _⟩ := MarkAt.opened hr2
        clear s2 s3 rTag rText
        have z0 := lie1 0 (by simp)
        have z1 := lie1 1 (by simp)
        have z2 := lie1 2 (by simp)
        have z3 := lie1 3 (by simp)
        simp only [List.getElem?_cons_zero, List.getElem?_cons_succ, Nat.add_zero] at z0 z1 z2 z3
        clear lie1 hcl hx'
        go_wp2_with fail
        refine (hM.out _ lo _ _ _ hr3.out hr0 (by omega)).mono ?_
        rintro e w1 ⟨⟨r', rfl, hr', hr'', hsm⟩, hb1⟩
        have hb' : Below w.heap.size w w1 := hb.trans (hb1.mono hb.size)
        have hsm' : Hid (r' < 0 ∨ (MarkD.small n X ∧ 2 * r' + (belowM n X : Int) ≤ 2 * r)) := hsm
        clear hsm z0 z1 z2 z3
        by_cases hneg' : r' < 0
        · go_wp2_with fail
          go_ret
          exact ⟨⟨-1, rfl, by omega, by omega, Or.inl (by omega)⟩, hb'⟩
        · go_wp2_with fail
          go_roundw
          case rel => exact ⟨j + 1, r', by omega, by go_num, rfl, by omega, by omega, hb', by show _ ≤ _; have q1 := hcn.out; have q2 := (hsm'.out.resolve_left (by omega)).2; rw [hp3.out]; omega, fun i' h hi' => by
            by_cases e : i' < j
            · exact hs.out i' h e
            · have e' : i' = j := by omega
              subst e'
              rw [hX'.out]
              exact (hsm'.out.resolve_left (by omega)).1⟩
          case measure => simp [intOf]; omega
      · go_wp2_with fail
        go_ret
        exact ⟨⟨r, rfl, by omega, by omega, Or.inr ⟨⟨by omega, fun i h => hs.out i h (by omega)⟩, by have q1 := hcn.out; have e : j = xs.length := (by omega); subst e; unfold cntL; omega⟩⟩, hb⟩
theorem szCMark_all : ∀ n, SzCM n ∧ SzCMS n := by
  intro n
  induction n with
  | zero =>
    have h : SzCM 0 := fun _ _ _ _ _ h _ _ => h.elim
    exact ⟨h, by
      intro w lo k xs left hk h0 h1
      exact szCMarkS_of h hk h0 h1⟩
  | succ n ih =>
    have h : SzCM (n + 1) := by
      intro w lo cs x left hx h0 h1
      exact szCMark_of ih.2 hx h0 h1
    exact ⟨h, by
      intro w lo k xs left hk h0 h1
      exact szCMarkS_of h hk h0 h1⟩
end Go.Proofs.Ytlcddndpfhdakaa
