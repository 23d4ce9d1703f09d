/- Trees that own their memory with all the room that their rows have. -/
import Derived.Test.YtndffcogddefiaaEdZoom
import Derived.Test.YtndffcogddefiaaCopyImpl
import Derived.Test.YtndffcogddefiaaFillOver
namespace Go.Proofs.Ytndffcogddefiaa
open Go.RowKit Go.Deep
/-- a row of trees, with room for so many -/
def RoomB (w : World) (g cap : Nat) : Prop := cap ≤ maxLen ∧ ∃ C : Array Value, w.heap[g]? = some (.cells C 26 (0, 0)) ∧ C.size = cap * 2
theorem RoomB.keep {w w' : World} {g cap : Nat} (h : RoomB w g cap) (e : w'.heap[g]? = w.heap[g]?) : RoomB w' g cap := by
  obtain ⟨h1, C, h2, h3⟩ := h
  exact ⟨h1, C, e.trans h2, h3⟩
theorem RoomB.set {w : World} {g cap : Nat} (h : RoomB w g cap) (i : Nat) (v : Value) : RoomB (w.setCell ⟨g, i, none⟩ v) g cap := by
  obtain ⟨h1, C, h2, h3⟩ := h
  exact ⟨h1, C.setIfInBounds i v, blk_set h2 v, by simpa using h3⟩
theorem RoomB.lt {w : World} {g cap : Nat} (h : RoomB w g cap) : g < w.heap.size := by
  obtain ⟨_, C, h2, _⟩ := h
  exact (Array.getElem?_eq_some_iff.1 h2).1
theorem RoomB.of_owns {w : World} {base g n cap : Nat} {xs : List Value} (h : w.ownsRow base 26 2 (.slice (some ⟨g, 0, none⟩) n cap) n xs) : RoomB w g cap := by
  rcases h.2 with ⟨e, _⟩ | ⟨g', cap', cur, e, _, hh, _, q2, q3, _⟩
  · cases e
  · injection e with e1 e2 e3
    injection e1 with e1
    injection e1 with e1 _
    subst e1 e3
    exact ⟨q2, cur, hh, q3⟩
/-- a slice of trees that is all there is of its block -/
def RoomK (w : World) (k : Value) (fs : List Nat) : Prop := k = .slice none 0 0 ∨ ∃ g n cap, k = .slice (some ⟨g, 0, none⟩) n cap ∧ 0 < n ∧ g ∈ fs ∧ RoomB w g cap
theorem RoomK.stays {w w' : World} {k : Value} {fs : List Nat} (h : RoomK w k fs) (q : ∀ b ∈ fs, w'.heap[b]? = w.heap[b]?) : RoomK w' k fs := by
  rcases h with h | ⟨g, n, cap, e, hp, hg, hr⟩
  · exact Or.inl h
  · exact Or.inr ⟨g, n, cap, e, hp, hg, hr.keep (q g hg)⟩
/-- a tree that owns its memory, and all the room that its rows have -/
def TreeP : Nat → World → List Value → TD → List Nat → Prop
  | 0, _, _, _, _ => False
  | n + 1, w, cs, x, fs => ∃ k1 : Value, ∃ f1 : List Nat, cs = [.string (strT x), k1] ∧ SeqOwn 2 (TreeP n) w k1 (kidsOf x) f1 ∧ (strT x).size ≤ maxLen ∧ fs = f1 ∧ RoomK w k1 f1
theorem TreeP_stays : ∀ n, OwnStays (TreeP n) := by
  intro n
  induction n with
  | zero => intro w w' cs x fs _ h; exact h
  | succ n ih =>
    intro w w' cs x fs q h
    obtain ⟨k1, f1, e, h1, r0, rfl, r1⟩ := h
    exact ⟨k1, _, e, h1.stays ih (fun b hb => q b hb), r0, rfl, r1.stays q⟩
theorem TreeP_lt : ∀ n, OwnLt (TreeP n) := by
  intro n
  induction n with
  | zero => intro w cs x fs h; exact h.elim
  | succ n ih =>
    intro w cs x fs h
    obtain ⟨k1, f1, e, h1, r0, rfl, _⟩ := h
    exact h1.lt ih
theorem SeqOwn.turn {α : Type} {c : Nat} {R Q : World → List Value → α → List Nat → Prop} (hRQ : ∀ w cs x fs, R w cs x fs → Q w cs x fs) {w : World} {k : Value} {xs : List α} {fs : List Nat} (h : SeqOwn c R w k xs fs) : SeqOwn c Q w k xs fs := by
  obtain ⟨a, cap, e, hm, h⟩ := h
  refine ⟨a, cap, e, hm, ?_⟩
  rcases h with h | ⟨b, off, e, C, T, bss, h1, h2, h3, h4, h5, h6⟩
  · exact Or.inl h
  · refine Or.inr ⟨b, off, e, C, T, bss, h1, h2, h3, h4, h5, fun i hi hi' => ?_⟩
    obtain ⟨cs, hc, hl, r⟩ := h6 i hi hi'
    exact ⟨cs, hc, hl, hRQ _ _ _ _ r⟩
theorem TreeP.toO : ∀ (n : Nat) (w : World) (cs : List Value) (x : TD) (fs : List Nat), TreeP n w cs x fs → TreeO n w cs x fs := by
  intro n
  induction n with
  | zero => intro w cs x fs h; exact h.elim
  | succ n ih =>
    intro w cs x fs h
    obtain ⟨k1, f1, e, h1, r0, rfl, _⟩ := h
    exact ⟨k1, _, e, h1.turn ih, r0, rfl⟩
theorem TreeP.opened {n : Nat} {w : World} {cs : List Value} {x : TD} {fs : List Nat} (h : TreeP n w cs x fs) : ∃ k1 : Value, cs = [.string (strT x), k1] ∧ SeqOwn 2 (TreeP (n - 1)) w k1 (kidsOf x) fs ∧ (strT x).size ≤ maxLen := by
  cases n with
  | zero => exact h.elim
  | succ n => obtain ⟨k1, f1, e, h1, r0, rfl, _⟩ := h; exact ⟨k1, e, h1, r0⟩
/-- the room of a node's row -/
def RoomN (w : World) (b o : Nat) : Prop := w.cell? ⟨b, o + 1, none⟩ = some (.slice none 0 0) ∨ ∃ g n cap, w.cell? ⟨b, o + 1, none⟩ = some (.slice (some ⟨g, 0, none⟩) n cap) ∧ 0 < n ∧ RoomB w g cap
theorem RoomN.below {w w' : World} {b o : Nat} (h : RoomN w b o) (hb : Below w.heap.size w w') : RoomN w' b o := by
  rcases h with e | ⟨g, n, cap, e, hp, hr⟩
  · exact Or.inl (by rw [World.cell?_of_block (w := w) (w' := w') (hb.block b (World.block_lt_of_cell? _ _ e))]; exact e)
  · exact Or.inr ⟨g, n, cap, by rw [World.cell?_of_block (w := w) (w' := w') (hb.block b (World.block_lt_of_cell? _ _ e))]; exact e, hp, hr.keep (hb.block g hr.lt)⟩
theorem zoomR : ∀ (path : List Int) (n : Nat) (w : World) (b o b' o' : Nat) (cs : List Value) (d : TD) (fs : List Nat), (∀ m, m < 2 → w.cell? ⟨b, o + m, none⟩ = cs[m]?) → TreeP n w cs d fs → okP d path = true → LocP w b o path b' o' → RoomN w b' o' := by
  intro path
  induction path with
  | nil =>
    intro n w b o b' o' cs d fs hc ht _ hl
    obtain ⟨rfl, rfl⟩ := hl
    cases n with
    | zero => exact ht.elim
    | succ n =>
      obtain ⟨k1, f1, rfl, _, _, rfl, hr⟩ := ht
      have c1 := hc 1 (by omega)
      rcases hr with rfl | ⟨g, n, cap, rfl, hp, _, hr⟩
      · exact Or.inl c1
      · exact Or.inr ⟨g, n, cap, c1, hp, hr⟩
  | cons p ps ih =>
    intro n w b o b' o' cs d fs hc ht hok hl
    simp only [okP, Bool.and_eq_true] at hok
    obtain ⟨hj, hkid⟩ := kid_nth hok.1
    cases n with
    | zero => exact ht.elim
    | succ n =>
      obtain ⟨k1, f1, rfl, hseq, _, rfl, _⟩ := ht
      obtain ⟨b1, off, m1, c1, e1, hl⟩ := hl
      have c1' := hc 1 (by omega)
      rw [e1] at c1'
      obtain ⟨a, cap, rfl, _, hx⟩ := hseq
      simp only [List.getElem?_cons_succ, List.getElem?_cons_zero, Option.some.injEq, Value.slice.injEq] at c1'
      rcases hx with ⟨h0, _⟩ | ⟨b2, off2, rfl, C, T, bss, h1, h2, h3, _, _, h6⟩
      · omega
      obtain ⟨e2, _, _⟩ := c1'
      injection e2 with e2
      injection e2 with e2 e3
      subst e2 e3
      obtain ⟨cj, hcl, hlie, htj⟩ := h6 p.toNat hj (by omega)
      rw [hkid] at hok
      exact ih n w b1 (off + p.toNat * 2) b' o' cj _ _ (fun m hm => by rw [blk_cell h1]; exact hlie m hm) htj hok.2 hl
def CpP (n : Nat) : Prop := ∀ (w : World) (lo : Nat) (t k : Value) (d : TD), TreeAt w lo n t k d → RightT d →
    Calls Try.prog 36 #[.agg #[t, k]] w fun e w' => (∃ (cs : List Value) (fs : List Nat), e = .returned (.agg cs.toArray) ∧ TreeP n w' cs d fs ∧ fs.Nodup ∧ ∀ b ∈ fs, w.heap.size ≤ b) ∧ Below w.heap.size w w'
set_option maxRecDepth 100000 in
set_option maxHeartbeats 4000000 in
theorem cpP_step (n : Nat) (ih0 : CpP n) : CpP (n + 1) := by
  intro w lo t k d ht hR
  obtain ⟨rfl, hsz⟩ := ht.tag
  obtain ⟨_, a0, cap0, rfl⟩ := ht.form
  have ih : Hid (CpP n) := ih0
  have hrow : Hid (RowAt (TreeAt w lo n) w lo (.slice a0 (kidsOf d).length cap0) (kidsOf d)) := ht.2
  have hR' : Hid (RightT d) := hR
  have hsz' : Hid ((strT d).size ≤ maxLen) := hsz
  have hfew : (kidsOf d).length ≤ 30 := hR.few
  clear ih0 ht hR hsz
  have hb2 : Hid (Below w.heap.size w ((w.alloc (.cells #[.string (strT d), .slice a0 (kidsOf d).length cap0] 26)).alloc (.cells #[.string ⟨#[]⟩, .slice none 0 0] 26))) := ((Below.refl _ _).alloc (Nat.le_refl _) _).alloc (by simp) _
  have hz2 : ((w.alloc (.cells #[.string (strT d), .slice a0 (kidsOf d).length cap0] 26)).alloc (.cells #[.string ⟨#[]⟩, .slice none 0 0] 26)).heap.size = w.heap.size + 2 := by simp
  have bA0 : Hid (Box ((w.alloc (.cells #[.string (strT d), .slice a0 (kidsOf d).length cap0] 26)).alloc (.cells #[.string ⟨#[]⟩, .slice none 0 0] 26)) w.heap.size [.string (strT d), .slice a0 (kidsOf d).length cap0] 26) := (Box.new w [.string (strT d), .slice a0 (kidsOf d).length cap0] 26).alloc _
  have bR0 : Hid (Box ((w.alloc (.cells #[.string (strT d), .slice a0 (kidsOf d).length cap0] 26)).alloc (.cells #[.string ⟨#[]⟩, .slice none 0 0] 26)) (w.heap.size + 1) [.string ⟨#[]⟩, .slice none 0 0] 26) := by
    have q := Box.new (w.alloc (.cells #[.string (strT d), .slice a0 (kidsOf d).length cap0] 26)) [.string ⟨#[]⟩, .slice none 0 0] 26
    simpa only [World.size_alloc, Hid] using q
  go_enter Try.func36, Try.ntmps36
  go_wp2_with fail
  refine (listCopyT_any (w0 := w) (RowAt.mono hrow.out hb2.out.size (Nat.le_refl _) (fun b _ h2 => hb2.out.block b h2) (fun _ _ _ r => r)) hfew).mono ?_
  rintro e w3 ⟨⟨v, rfl, hres⟩, hb3⟩
  rw [hz2] at hb3
  have hz3 : w.heap.size + 2 ≤ w3.heap.size := by have := hb3.size; rw [hz2] at this; exact this
  have bA3 : Hid (Box w3 w.heap.size [.string (strT d), .slice a0 (kidsOf d).length cap0] 26) := bA0.out.below hb3 (by omega)
  have bR3 : Hid (Box w3 (w.heap.size + 1) [.string ⟨#[]⟩, .slice none 0 0] 26) := bR0.out.below hb3 (by omega)
  have hB3 : Hid (Below w.heap.size w w3) := hb2.out.trans (hb3.mono (by omega))
  have hres' : Hid (LcRes w ((w.alloc (.cells #[.string (strT d), .slice a0 (kidsOf d).length cap0] 26)).alloc (.cells #[.string ⟨#[]⟩, .slice none 0 0] 26)) w3 lo n (kidsOf d) v) := hres
  have hc3 := bA3.out.cell 1 rfl
  have hf3 := bA3.out.unfrozen
  clear hres hb3 bA0 bR0
  rcases hres'.out with ⟨h0, rfl⟩ | ⟨hpos, g, cap, css, rfl, hcap, hown, hcl, hc2, hkid⟩
  · have bA : Hid (Box (w3.setCell ⟨w.heap.size, 1, none⟩ (.slice none 0 0)) w.heap.size [.string (strT d), .slice none 0 0] 26) := bA3.out.set (i := 1) _
    have bR : Hid (Box (w3.setCell ⟨w.heap.size, 1, none⟩ (.slice none 0 0)) (w.heap.size + 1) [.string ⟨#[]⟩, .slice none 0 0] 26) := bR3.out.other (by omega) _
    have hB4 : Hid (Below w.heap.size w (w3.setCell ⟨w.heap.size, 1, none⟩ (.slice none 0 0))) := hB3.out.setCell (by exact Nat.le_refl _) _
    have h0' : Hid ((kidsOf d).length = 0) := h0
    have cA1 := bA.out.cell 1 rfl
    clear h0
    go_wp2_with fail
    generalize (w3.setCell ⟨w.heap.size, 1, none⟩ (.slice none 0 0)) = W4 at bA bR hB4
    go_loopw [12] (fun i wr => i = .int .i64 0 ∧ wr = W4) (fun _ _ => 0)
    case atStart => exact ⟨rfl, rfl⟩
    case round =>
      obtain ⟨rfl, rfl⟩ := hrel
      have cT0 := bA.out.cell 0 rfl
      have cT1 := bA.out.cell 1 rfl
      have cR0 := bR.out.cell 0 rfl
      have cR1 := bR.out.cell 1 rfl
      have fR := bR.out.unfrozen
      go_wp2_with fail
      have r1 := ((bR.out.set (i := 0) (.string (strT d))).set (i := 1) (.slice none 0 0)).cell 1 rfl
      have r2 := ((bR.out.set (i := 0) (.string (strT d))).set (i := 1) (.slice none 0 0)).cell 0 rfl
      refine bodyPost_ret (v := .agg #[.string (strT d), .slice none 0 0]) (by simp [results, Try.results36, go_sem, r1, r2]) rfl ?_
      refine ⟨⟨[.string (strT d), .slice none 0 0], [], rfl, ⟨.slice none 0 0, [], rfl, ?_, hsz'.out, rfl, Or.inl rfl⟩, List.nodup_nil, by simp⟩, (hB4.out.setCell (p := ⟨w.heap.size + 1, 0, none⟩) (by simp) _).setCell (p := ⟨w.heap.size + 1, 1, none⟩) (by simp) _⟩
      exact ⟨none, 0, by rw [h0'.out], by rw [h0'.out]; exact ⟨Nat.zero_le _, Nat.zero_le _⟩, Or.inl ⟨h0'.out, rfl⟩⟩
  · have hown2 : w3.ownsRow (w.heap.size + 2) 26 2 (.slice (some ⟨g, 0, none⟩) (kidsOf d).length cap) (kidsOf d).length css.flatten := by rw [← hz2]; exact hown
    have bA : Hid (Box (w3.setCell ⟨w.heap.size, 1, none⟩ (.slice (some ⟨g, 0, none⟩) (kidsOf d).length cap)) w.heap.size [.string (strT d), .slice (some ⟨g, 0, none⟩) (kidsOf d).length cap] 26) := bA3.out.set (i := 1) _
    have bR : Hid (Box (w3.setCell ⟨w.heap.size, 1, none⟩ (.slice (some ⟨g, 0, none⟩) (kidsOf d).length cap)) (w.heap.size + 1) [.string ⟨#[]⟩, .slice none 0 0] 26) := bR3.out.other (by omega) _
    have hB4 : Hid (Below w.heap.size w (w3.setCell ⟨w.heap.size, 1, none⟩ (.slice (some ⟨g, 0, none⟩) (kidsOf d).length cap))) := hB3.out.setCell (by exact Nat.le_refl _) _
    have hfil0 := FilledC.start (R := TreeP n) (O := KidC w lo n) (Below.refl (w.heap.size + 2) w3) hown2 hcl hc2 hkid
    have hg : w.heap.size + 2 ≤ g := hfil0.2
    have hfil : Hid (FilledC 26 2 (TreeP n) (KidC w lo n) (w.heap.size + 2) (w3.setCell ⟨w.heap.size, 1, none⟩ (.slice (some ⟨g, 0, none⟩) (kidsOf d).length cap)) (w3.setCell ⟨w.heap.size, 1, none⟩ (.slice (some ⟨g, 0, none⟩) (kidsOf d).length cap)) (kidsOf d) g 0 []) := by
      obtain ⟨_, q2, q3, q4, q5, C, q6, q7, q8, q9⟩ := hfil0.1
      exact ⟨Below.refl _ _, by rw [set_size]; exact q2, q3, q4, by simp, C, (set_other (by omega) _).trans q6, q7, fun j' _ h => absurd h (by simp), q9⟩
    have hroom0 : Hid (RoomB (w3.setCell ⟨w.heap.size, 1, none⟩ (.slice (some ⟨g, 0, none⟩) (kidsOf d).length cap)) g cap) := (RoomB.of_owns hown).keep (set_other (by omega) _)
    clear hown hown2 hcl hc2 hkid hfil0 hres'
    have cA1 := bA.out.cell 1 rfl
    go_wp2_with fail
    clear cA1 hc3 hf3 bA3 bR3 hB3
    generalize (w3.setCell ⟨w.heap.size, 1, none⟩ (.slice (some ⟨g, 0, none⟩) (kidsOf d).length cap)) = W4 at bA bR hB4 hfil hroom0
    go_loopw [12] (fun i wr => ∃ (j : Nat) (bss : List (List Nat)), j ≤ (kidsOf d).length ∧ i = .int .i64 j ∧ Hid (FilledC 26 2 (TreeP n) (KidC w lo n) (w.heap.size + 2) W4 wr (kidsOf d) g j bss) ∧ Hid (RoomB wr g cap)) (fun i _ => (kidsOf d).length - (intOf i).toNat)
    case atStart => exact ⟨0, [], by omega, rfl, hfil, hroom0⟩
    case round =>
      obtain ⟨j, bss, hj, rfl, hf, hrm⟩ := hrel
      have hbr : Below (w.heap.size + 2) W4 wr := hf.out.1
      have bAr : Hid (Box wr w.heap.size [.string (strT d), .slice (some ⟨g, 0, none⟩) (kidsOf d).length cap] 26) := bA.out.below hbr (by omega)
      have bRr : Hid (Box wr (w.heap.size + 1) [.string ⟨#[]⟩, .slice none 0 0] 26) := bR.out.below hbr (by omega)
      have hbw : Below w.heap.size w wr := hB4.out.trans (hbr.mono (by omega))
      have hzr : w.heap.size + 2 ≤ wr.heap.size := by have := bRr.out.lt; omega
      by_cases hlt : j < (kidsOf d).length
      · obtain ⟨cs, hcsl, lie, t', k', rfl, htk⟩ := hf.out.at hlt
        have hRK0 : Hid (RightT (kidsOf d)[j]) := by show RightT _; have := hR'.out.nth hlt; simpa [nth, List.getD, List.getElem?_eq_getElem hlt] using this
        obtain ⟨rfl, _⟩ := htk.tag
        obtain ⟨_, a2, cap2, rfl⟩ := htk.form
        have z0 := lie 0 (by simp)
        have z1 := lie 1 (by simp)
        simp only [List.getElem?_cons_zero, List.getElem?_cons_succ, Nat.add_zero] at z0 z1
        have htK0 : Hid (TreeAt w lo n (.string (strT (kidsOf d)[j])) (.slice a2 (kidsOf (kidsOf d)[j]).length cap2) (kidsOf d)[j]) := htk
        generalize hY : (kidsOf d)[j] = Y at hRK0 htK0 z0 z1
        have hY' : Hid ((kidsOf d)[j] = Y) := hY
        have hlt' : (j : Int) < ((kidsOf d).length : Int) := by omega
        have hj0 : (0 : Int) ≤ (j : Int) := by omega
        have hglt : g < wr.heap.size := hf.out.2.1
        clear lie hcsl htk hY
        have cA1 := bAr.out.cell 1 rfl
        go_wp2_with fail
        have hbV : Hid (Below wr.heap.size wr (wr.alloc (.cells #[.string (strT Y), .slice a2 (kidsOf Y).length cap2] 26))) := (Below.refl _ _).alloc (Nat.le_refl _) _
        have hfV := hf.out.below (TreeP_stays n) (by omega) hbV.out
        have bAV := bAr.out.alloc (.cells #[.string (strT Y), .slice a2 (kidsOf Y).length cap2] 26)
        have bYV : Box (wr.alloc (.cells #[.string (strT Y), .slice a2 (kidsOf Y).length cap2] 26)) wr.heap.size [.string (strT Y), .slice a2 (kidsOf Y).length cap2] 26 := Box.new wr _ _
        have hzV : (wr.alloc (.cells #[.string (strT Y), .slice a2 (kidsOf Y).length cap2] 26)).heap.size = wr.heap.size + 1 := by simp
        have hBV : Below w.heap.size w (wr.alloc (.cells #[.string (strT Y), .slice a2 (kidsOf Y).length cap2] 26)) := hbw.alloc hbw.size _
        have hfV' : Hid (FilledC 26 2 (TreeP n) (KidC w lo n) (w.heap.size + 2) W4 (wr.alloc (.cells #[.string (strT Y), .slice a2 (kidsOf Y).length cap2] 26)) (kidsOf d) g j bss) := hfV
        have hBV' : Hid (Below w.heap.size w (wr.alloc (.cells #[.string (strT Y), .slice a2 (kidsOf Y).length cap2] 26))) := hBV
        have hrmV : Hid (RoomB (wr.alloc (.cells #[.string (strT Y), .slice a2 (kidsOf Y).length cap2] 26)) g cap) := hrm.out.keep (hbV.out.block g hglt)
        generalize (wr.alloc (.cells #[.string (strT Y), .slice a2 (kidsOf Y).length cap2] 26)) = V at bAV bYV hzV hfV' hBV' hrmV
        have y0 := bYV.cell 0 rfl
        have y1 := bYV.cell 1 rfl
        have x1 := bAV.cell 1 rfl
        have bAV' : Hid (Box V w.heap.size [.string (strT d), .slice (some ⟨g, 0, none⟩) (kidsOf d).length cap] 26) := bAV
        have bYV' : Hid (Box V wr.heap.size [.string (strT Y), .slice a2 (kidsOf Y).length cap2] 26) := bYV
        have hzV' : Hid (V.heap.size = wr.heap.size + 1) := hzV
        have hlA : w.heap.size < V.heap.size := bAV.lt
        have hlY : wr.heap.size < V.heap.size := bYV.lt
        have hne1 : ¬ w.heap.size = g := by omega
        have hne2 : ¬ wr.heap.size = g := by omega
        have hne3 : ¬ g = w.heap.size := by omega
        have hne4 : ¬ g = wr.heap.size := by omega
        clear hfV hBV bAV bYV hzV z0 z1 cA1 hbV
        go_region_held3 (fun w' => w'.cell? ⟨w.heap.size, 1, none⟩ = some (.slice (some ⟨g, 0, none⟩) (kidsOf d).length cap) ∧ w'.cell? ⟨wr.heap.size, 0, none⟩ = some (.string (strT Y)) ∧ w'.cell? ⟨wr.heap.size, 1, none⟩ = some (.slice a2 (kidsOf Y).length cap2)) (go_keep)
          (first | (go_at_call 36; refine (ih.out _ lo _ _ Y (by exact TreeAt.below htK0.out (Below.drew hBV'.out)) hRK0.out).mono ?_; rintro e w5 ⟨⟨cs5, fs5, rfl, ho5, nd5, lo5⟩, hb5⟩; have hb5' : Hid (Below V.heap.size V w5) := undrew hb5; have lo5' : Hid (∀ b ∈ fs5, V.heap.size ≤ b) := lo5; have ho5' : Hid (TreeP n w5 cs5 Y fs5) := ho5; have hi5 : Hid (∀ b ∈ fs5, b < w5.heap.size) := TreeP_lt _ _ _ _ _ ho5; obtain ⟨kk, rfl, hs5, _⟩ := ho5.opened; obtain ⟨ak, ck, rfl⟩ := hs5.form; have bA5 : Hid (Box w5 w.heap.size _ _) := Box.below bAV'.out hb5'.out hlA; have bY5 : Hid (Box w5 wr.heap.size _ _) := Box.below bYV'.out hb5'.out hlY; have k1 := bA5.out.cell 1 rfl; have k2 := bY5.out.cell 0 rfl; have k3 := bY5.out.cell 1 rfl; obtain ⟨hv5, hf5⟩ := hfV'.out.facts hlt hb5'.out; obtain ⟨v0, q0⟩ := hv5 0 (by omega); obtain ⟨v1, q1⟩ := hv5 1 (by omega); have f0 := hf5 (j * 2); have f1 := hf5 (j * 2 + 1); simp only [Nat.add_zero] at q0; clear ho5 lo5 hs5 hv5 hf5 hb5))
        go_wp2_with fail
        go_roundw
        case rel =>
          refine ⟨j + 1, bss ++ [fs5], by omega, by go_num, ?_⟩
          have hst := FilledC.step (TreeP_stays n) hfV'.out hlt (by omega) hb5'.out rfl (by rw [hY'.out]; exact ho5'.out) lo5'.out hi5.out nd5
          simp only [putCells] at hst
          refine ⟨hst, ?_⟩
          exact ((hrmV.out.keep (hb5'.out.block g hrmV.out.lt)).set _ _).set _ _
        case measure => simp [intOf]; omega
      · obtain rfl : j = (kidsOf d).length := by omega
        have bA := bAr
        have bR := bRr
        have cT0 := bA.out.cell 0 rfl
        have cT1 := bA.out.cell 1 rfl
        have cR0 := bR.out.cell 0 rfl
        have cR1 := bR.out.cell 1 rfl
        have fR := bR.out.unfrozen
        go_wp2_with fail
        have r1 := ((bR.out.set (i := 0) (.string (strT d))).set (i := 1) (.slice (some ⟨g, 0, none⟩) (kidsOf d).length cap)).cell 1 rfl
        have r2 := ((bR.out.set (i := 0) (.string (strT d))).set (i := 1) (.slice (some ⟨g, 0, none⟩) (kidsOf d).length cap)).cell 0 rfl
        refine bodyPost_ret (v := .agg #[.string (strT d), .slice (some ⟨g, 0, none⟩) (kidsOf d).length cap]) (by simp [results, Try.results36, go_sem, r1, r2]) rfl ?_
        obtain ⟨hso, hlo⟩ := hf.out.done (by omega) (by unfold maxLen; omega) hcap
        refine ⟨⟨[.string (strT d), .slice (some ⟨g, 0, none⟩) (kidsOf d).length cap], _, rfl, ⟨.slice (some ⟨g, 0, none⟩) (kidsOf d).length cap, _, rfl, ?_, hsz'.out, rfl, Or.inr ⟨g, _, cap, rfl, hpos, List.mem_cons_self, (hrm.out.keep (set_other (by omega) _)).keep (set_other (by omega) _)⟩⟩, hso.nodup, fun b q => by have := hlo b q; omega⟩, (hbw.setCell (p := ⟨w.heap.size + 1, 0, none⟩) (by simp) _).setCell (p := ⟨w.heap.size + 1, 1, none⟩) (by simp) _⟩
        exact SeqOwn.put (TreeP_stays n) hso (g := w.heap.size + 1) (o := 0) (vs := [.string (strT d), .slice (some ⟨g, 0, none⟩) (kidsOf d).length cap]) (fun b q => by have := hlo b q; omega)
theorem cpP_all : ∀ n, CpP n := by
  intro n
  induction n with
  | zero => exact fun _ _ _ _ _ h _ => h.elim
  | succ n ih => exact cpP_step n ih
end Go.Proofs.Ytndffcogddefiaa
