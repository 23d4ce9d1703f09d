/- Undone of the program and of the specification: walked. -/
import Derived.Test.YtndffcogddefiaaEdEdit
import Derived.Test.YtndffcogddefiaaCntNine
namespace Go.Proofs.Ytndffcogddefiaa
open Go.RowKit Go.Deep
def zeroE : EditD := ⟨0, [], ⟨#[]⟩, zeroT⟩
def resE (o : Option EditD) : EditD := o.getD zeroE
/-- the edit that leads back -/
def backD (d : TD) (e : EditD) : EditD := if e.vKind = 1 then ⟨2, e.vPath, ⟨#[]⟩, zeroT⟩ else if e.vKind = 2 then ⟨1, e.vPath, ⟨#[]⟩, endP d e.vPath⟩ else ⟨3, e.vPath, strT (endP d e.vPath), zeroT⟩
def undoneD (d : TD) (e : EditD) : Option EditD := match editedD d e with
  | some _ => some (backD d e)
  | none => none
/-- what Undone answers: an edit that owns its memory -/
def UnR (w w' : World) (o : Option EditD) (e : Ending) : Prop := ∃ (cs : List Value) (fs : List Nat) (n : Nat), e = .returned (.tuple #[.agg cs.toArray, .bool o.isSome]) ∧ EditO n w' cs (resE o) fs ∧ fs.Nodup ∧ (∀ b ∈ fs, w.heap.size ≤ b) ∧ Below w.heap.size w w'
theorem UnR.no {w w' : World} {o : Option EditD} (h : o = Option.none) (hb : Below w.heap.size w w') : UnR w w' o (.returned (.tuple #[.agg #[.int .i64 0, .slice none 0 0, .string ⟨#[]⟩, .string ⟨#[]⟩, .slice none 0 0], .bool false])) := by
  subst h
  exact ⟨[.int .i64 0, .slice none 0 0, .string ⟨#[]⟩, .string ⟨#[]⟩, .slice none 0 0], [], 1, rfl, ⟨_, _, [], [], rfl, (show InI (0 : Int) by unfold InI; omega), seqOwn_none _, Nat.zero_le _, treeO_zero _, rfl, List.nodup_nil⟩, List.nodup_nil, by simp, hb⟩
theorem UnR.yes {w w' : World} {o : Option EditD} {x : EditD} {C : List Value} {fs : List Nat} {n : Nat} (h : o = some x) (ho : EditO n w' C x fs) (hl : ∀ b ∈ fs, w.heap.size ≤ b) (hb : Below w.heap.size w w') : UnR w w' o (.returned (.tuple #[.agg C.toArray, .bool true])) := by
  subst h
  exact ⟨C, fs, n, rfl, ho, EditO_nodup ho, hl, hb⟩
theorem edited_ok {d y : TD} {e : EditD} (h : editedD d e = some y) : treeB d = true ∧ formB e = true := by
  unfold editedD at h
  split at h
  · rename_i hc; exact hc
  · cases h
theorem form_kind {e : EditD} (h : formB e = true) : e.vKind = 1 ∨ e.vKind = 2 ∨ e.vKind = 3 := by
  by_cases h1 : e.vKind = 1
  · exact Or.inl h1
  by_cases h2 : e.vKind = 2
  · exact Or.inr (Or.inl h2)
  by_cases h3 : e.vKind = 3
  · exact Or.inr (Or.inr h3)
  simp [formB, h1, h2, h3] at h
theorem edited_path {d y : TD} {e : EditD} (h : editedD d e = some y) : e.vKind ≠ 1 → okP d e.vPath = true := by
  intro h1
  have hf := (edited_ok h).2
  unfold editedD at h
  rw [if_pos (edited_ok h)] at h
  rcases form_kind hf with q | q | q
  · exact absurd q h1
  · have hp : 0 < e.vPath.length := by simp [formB, q] at hf; exact hf.1.2
    obtain ⟨a, p, e1, _⟩ := path_snoc hp
    rw [q, e1, putD_delete] at h
    by_cases hc : okP d (a ++ [p]) = true
    · rw [e1]; exact hc
    · rw [if_neg hc] at h; cases h
  · rw [q, putD_rename] at h
    by_cases hc : okP d e.vPath = true
    · exact hc
    · rw [if_neg hc] at h; cases h
theorem ht_tag {H : Type} : ∀ {path : List Int} {n : Nat} {w : World} {lo : Nat} {t k : Value} {d : DataW H}, TreeAt w lo n t k d → okP d path = true → (strT (endP d path)).size ≤ maxLen := by
  intro path
  induction path with
  | nil => intro n w lo t k d h _; exact h.tag.2
  | cons p ps ih =>
    intro n w lo t k d h hok
    simp only [okP, Bool.and_eq_true] at hok
    cases n with
    | zero => exact h.elim
    | succ n =>
      obtain ⟨_, a, cap, _, _, hx⟩ := h
      have hin : 0 ≤ p ∧ p < ((kidsOf d).length : Int) := by simpa [inB] using hok.1
      obtain ⟨b, off, _, _, _, hc⟩ := hx (by omega)
      obtain ⟨t', k', _, _, hr⟩ := hc p.toNat (by omega)
      exact ih hr hok.2
theorem seqAt_inI {w : World} {lo : Nat} {k : Value} {xs : List Int} (h : SeqAt 1 IntAt w lo k xs) : ∀ x ∈ xs, InI x := by
  intro x hx
  obtain ⟨i, hi, rfl⟩ := List.getElem_of_mem hx
  obtain ⟨a, cap, _, _, hc⟩ := h
  obtain ⟨b, off, _, _, _, hc⟩ := hc (by omega)
  obtain ⟨cs, _, _, hr⟩ := hc i hi
  exact hr.2
set_option maxRecDepth 100000 in
set_option maxHeartbeats 8000000 in
theorem implUndone_any {n m : Nat} {w : World} {t k : Value} {cs : List Value} {d : TD} {e : EditD} (ht0 : TreeAt w 0 n t k d) (he0 : EditAt m w 0 cs e) (hpl : e.vPath.length ≤ 1048576) :
    Calls Try.prog 18 #[.agg #[t, k], .agg cs.toArray] w fun e1 w' => UnR w w' (undoneD d e) e1 := by
  obtain ⟨rfl, _⟩ := ht0.tag
  obtain ⟨_, a0, c0, rfl⟩ := ht0.form
  obtain ⟨ap, cp, at1, ct, rfl, hp0, _, _⟩ := he0.form
  have he : Hid (∀ W, Below w.heap.size w W → EditAt m W 0 [.int .i64 e.vKind, .slice ap e.vPath.length cp, .string e.vTag, .string (strT e.vTree), .slice at1 (kidsOf e.vTree).length ct] e) := fun W hb => EditAt.stays _ _ _ _ _ _ (.of_below hb) he0
  have ht : Hid (∀ W, Below w.heap.size w W → TreeAt W 0 n (.string (strT d)) (.slice a0 (kidsOf d).length c0) d) := fun W hb => ht0.below hb
  have hp : Hid (∀ W, Below w.heap.size w W → SeqAt 1 IntAt W 0 (.slice ap e.vPath.length cp) e.vPath) := fun W hb => hp0.below intAt_stays hb
  have hlen : Hid (e.vPath.length ≤ 1048576) := hpl
  clear ht0 he0 hp0
  have hB0 : Hid (Below w.heap.size w (((w.alloc (.cells #[.string (strT d), .slice a0 (kidsOf d).length c0] 26)).alloc (.cells #[.int .i64 e.vKind, .slice ap e.vPath.length cp, .string e.vTag, .string (strT e.vTree), .slice at1 (kidsOf e.vTree).length ct] 29)).alloc (.cells #[.int .i64 0, .slice none 0 0, .string ⟨#[]⟩, .string ⟨#[]⟩, .slice none 0 0] 29))) := (((Below.refl _ _).alloc (Nat.le_refl _) _).alloc (by simp) _).alloc (by simp; omega) _
  have bT0 : Hid (Box (((w.alloc (.cells #[.string (strT d), .slice a0 (kidsOf d).length c0] 26)).alloc (.cells #[.int .i64 e.vKind, .slice ap e.vPath.length cp, .string e.vTag, .string (strT e.vTree), .slice at1 (kidsOf e.vTree).length ct] 29)).alloc (.cells #[.int .i64 0, .slice none 0 0, .string ⟨#[]⟩, .string ⟨#[]⟩, .slice none 0 0] 29)) w.heap.size [.string (strT d), .slice a0 (kidsOf d).length c0] 26) := ((Box.new w [.string (strT d), .slice a0 (kidsOf d).length c0] 26).alloc _).alloc _
  have bE0 : Hid (Box (((w.alloc (.cells #[.string (strT d), .slice a0 (kidsOf d).length c0] 26)).alloc (.cells #[.int .i64 e.vKind, .slice ap e.vPath.length cp, .string e.vTag, .string (strT e.vTree), .slice at1 (kidsOf e.vTree).length ct] 29)).alloc (.cells #[.int .i64 0, .slice none 0 0, .string ⟨#[]⟩, .string ⟨#[]⟩, .slice none 0 0] 29)) (w.heap.size + 1) [.int .i64 e.vKind, .slice ap e.vPath.length cp, .string e.vTag, .string (strT e.vTree), .slice at1 (kidsOf e.vTree).length ct] 29) := by
    have q := (Box.new (w.alloc (.cells #[.string (strT d), .slice a0 (kidsOf d).length c0] 26)) [.int .i64 e.vKind, .slice ap e.vPath.length cp, .string e.vTag, .string (strT e.vTree), .slice at1 (kidsOf e.vTree).length ct] 29).alloc (.cells #[.int .i64 0, .slice none 0 0, .string ⟨#[]⟩, .string ⟨#[]⟩, .slice none 0 0] 29)
    simpa only [World.size_alloc, Hid] using q
  have bR0 : Hid (Box (((w.alloc (.cells #[.string (strT d), .slice a0 (kidsOf d).length c0] 26)).alloc (.cells #[.int .i64 e.vKind, .slice ap e.vPath.length cp, .string e.vTag, .string (strT e.vTree), .slice at1 (kidsOf e.vTree).length ct] 29)).alloc (.cells #[.int .i64 0, .slice none 0 0, .string ⟨#[]⟩, .string ⟨#[]⟩, .slice none 0 0] 29)) (w.heap.size + 1 + 1) [.int .i64 0, .slice none 0 0, .string ⟨#[]⟩, .string ⟨#[]⟩, .slice none 0 0] 29) := by
    have q := Box.new ((w.alloc (.cells #[.string (strT d), .slice a0 (kidsOf d).length c0] 26)).alloc (.cells #[.int .i64 e.vKind, .slice ap e.vPath.length cp, .string e.vTag, .string (strT e.vTree), .slice at1 (kidsOf e.vTree).length ct] 29)) [.int .i64 0, .slice none 0 0, .string ⟨#[]⟩, .string ⟨#[]⟩, .slice none 0 0] 29
    simpa only [World.size_alloc, Hid] using q
  go_enter Try.func18, Try.ntmps18
  have p0 := bE0.out.cell 0 rfl
  have p1 := bE0.out.cell 1 rfl
  have p2 := bE0.out.cell 2 rfl
  have p3 := bE0.out.cell 3 rfl
  have p4 := bE0.out.cell 4 rfl
  have t0 := bT0.out.cell 0 rfl
  have t1 := bT0.out.cell 1 rfl
  go_wp2_with fail
  refine (changedTree_any (ht.out _ hB0.out) (he.out _ hB0.out)).mono ?_
  rintro e1 w1 ⟨h1, hb1⟩
  have hB1 : Hid (Below w.heap.size w w1) := hB0.out.trans (hb1.mono hB0.out.size)
  have bR1 : Hid (Box w1 (w.heap.size + 1 + 1) [.int .i64 0, .slice none 0 0, .string ⟨#[]⟩, .string ⟨#[]⟩, .slice none 0 0] 29) := bR0.out.below hb1 bR0.out.lt
  clear hb1 p0 p1 p2 p3 p4 t0 t1 bE0 bT0 bR0 hB0
  rcases h1 with ⟨y, cs5, fs5, n5, bv, fb, hy, rfl, ho5, _, _, hback, _⟩ | ⟨hno0, rfl⟩
  · obtain ⟨k5, rfl, hs5, _⟩ := ho5.opened
    obtain ⟨a5, c5, rfl⟩ := hs5.form
    have hso : Hid (undoneD d e = some (backD d e)) := by show _ = _; unfold undoneD; rw [hy]
    have hRd : Hid (RightT d) := treeB_right (edited_ok hy).1
    have hB1a : Hid (Below w.heap.size w (w1.alloc (.cells #[.string (strT y), .slice a5 (kidsOf y).length c5] 26))) := hB1.out.alloc hB1.out.size _
    have hb1a : Hid (Below w1.heap.size w1 (w1.alloc (.cells #[.string (strT y), .slice a5 (kidsOf y).length c5] 26))) := (Below.refl _ _).alloc (Nat.le_refl _) _
    have bR1a : Hid (Box (w1.alloc (.cells #[.string (strT y), .slice a5 (kidsOf y).length c5] 26)) (w.heap.size + 1 + 1) [.int .i64 0, .slice none 0 0, .string ⟨#[]⟩, .string ⟨#[]⟩, .slice none 0 0] 29) := bR1.out.alloc _
    clear hy ho5 hs5
    rcases hback with ⟨hk, rfl⟩ | ⟨hk, hok0, k1, fi, n3, rfl, hti0, _⟩ | ⟨hk, hok0, rfl⟩
    · have hbk : Hid (backD d e = ⟨2, e.vPath, ⟨#[]⟩, zeroT⟩) := by show _ = _; simp [backD, hk]
      clear hk
      go_wp2_with fail
      refine (editDel_any (hp.out _ hB1a.out) hlen.out).mono ?_
      rw [← hbk.out]
      rintro e2 w2 ⟨cs9, fs9, n9, rfl, ho9, lo9, hb9⟩
      obtain ⟨p9, d9, a9, c9, rfl, _, _, _⟩ := (EditO_at (lo := 0) ho9 (fun _ _ => Nat.zero_le _)).form
      have ho9h : Hid (EditO n9 w2 [.int .i64 (backD d e).vKind, .slice p9 (backD d e).vPath.length d9, .string (backD d e).vTag, .string (strT (backD d e).vTree), .slice a9 (kidsOf (backD d e).vTree).length c9] (backD d e) fs9) := ho9
      have hB2 : Hid (Below w.heap.size w w2) := hB1a.out.trans (hb9.mono hB1a.out.size)
      have bR2 : Hid (Box w2 (w.heap.size + 1 + 1) [.int .i64 0, .slice none 0 0, .string ⟨#[]⟩, .string ⟨#[]⟩, .slice none 0 0] 29) := bR1a.out.below hb9 bR1a.out.lt
      have lo9h : Hid (∀ b ∈ fs9, w.heap.size + 1 + 1 + 1 ≤ b) := fun b hb => by have h1 := lo9 b hb; have h2 := bR1a.out.lt; omega
      clear ho9 lo9 hb9
      have r0 := bR2.out.cell 0 rfl
      have r1 := bR2.out.cell 1 rfl
      have r2 := bR2.out.cell 2 rfl
      have r3 := bR2.out.cell 3 rfl
      have r4 := bR2.out.cell 4 rfl
      have fR := bR2.out.unfrozen
      go_wp2_with fail
      have z := (((((bR2.out.set (i := 0) (.int .i64 (backD d e).vKind)).set (i := 1) (.slice p9 (backD d e).vPath.length d9)).set (i := 2) (.string (backD d e).vTag)).set (i := 3) (.string (strT (backD d e).vTree))).set (i := 4) (.slice a9 (kidsOf (backD d e).vTree).length c9))
      have z0 := z.cell 0 rfl
      have z1 := z.cell 1 rfl
      have z2 := z.cell 2 rfl
      have z3 := z.cell 3 rfl
      have z4 := z.cell 4 rfl
      refine bodyPost_ret (v := .tuple #[.agg #[.int .i64 (backD d e).vKind, .slice p9 (backD d e).vPath.length d9, .string (backD d e).vTag, .string (strT (backD d e).vTree), .slice a9 (kidsOf (backD d e).vTree).length c9], .bool true]) (by simp [results, Try.results18, go_sem, z0, z1, z2, z3, z4]) rfl ?_
      exact UnR.yes (n := n9) (fs := fs9) hso.out (EditO_stays _ _ _ _ _ _ (fun b q => putCells_other [.int .i64 (backD d e).vKind, .slice p9 (backD d e).vPath.length d9, .string (backD d e).vTag, .string (strT (backD d e).vTree), .slice a9 (kidsOf (backD d e).vTree).length c9] w2 (w.heap.size + 1 + 1) 0 b (by have := lo9h.out b q; omega)) ho9h.out) (fun b q => by have := lo9h.out b q; omega) (putCells_below [.int .i64 (backD d e).vKind, .slice p9 (backD d e).vPath.length d9, .string (backD d e).vTag, .string (strT (backD d e).vTree), .slice a9 (kidsOf (backD d e).vTree).length c9] _ _ _ (w.heap.size + 1 + 1) 0 (by omega) hB2.out)
    · have hRe : Hid (RightT (endP d e.vPath)) := hRd.out.ends _ hok0
      have hti : Hid (TreeAt w1 0 n3 (.string (strT (endP d e.vPath))) k1 (endP d e.vPath)) := treeO_ta hti0
      clear hok0 hti0
      obtain ⟨_, ai, ci, rfl⟩ := hti.out.form
      have hbk : Hid (backD d e = ⟨1, e.vPath, ⟨#[]⟩, endP d e.vPath⟩) := by show _ = _; simp [backD, hk]
      clear hk
      go_wp2_with fail
      refine (editIns_any (hp.out _ hB1a.out) hlen.out (hti.out.below hb1a.out) hRe.out).mono ?_
      rw [← hbk.out]
      rintro e2 w2 ⟨cs9, fs9, n9, rfl, ho9, lo9, hb9⟩
      obtain ⟨p9, d9, a9, c9, rfl, _, _, _⟩ := (EditO_at (lo := 0) ho9 (fun _ _ => Nat.zero_le _)).form
      have ho9h : Hid (EditO n9 w2 [.int .i64 (backD d e).vKind, .slice p9 (backD d e).vPath.length d9, .string (backD d e).vTag, .string (strT (backD d e).vTree), .slice a9 (kidsOf (backD d e).vTree).length c9] (backD d e) fs9) := ho9
      have hB2 : Hid (Below w.heap.size w w2) := hB1a.out.trans (hb9.mono hB1a.out.size)
      have bR2 : Hid (Box w2 (w.heap.size + 1 + 1) [.int .i64 0, .slice none 0 0, .string ⟨#[]⟩, .string ⟨#[]⟩, .slice none 0 0] 29) := bR1a.out.below hb9 bR1a.out.lt
      have lo9h : Hid (∀ b ∈ fs9, w.heap.size + 1 + 1 + 1 ≤ b) := fun b hb => by have h1 := lo9 b hb; have h2 := bR1a.out.lt; omega
      clear ho9 lo9 hb9
      have r0 := bR2.out.cell 0 rfl
      have r1 := bR2.out.cell 1 rfl
      have r2 := bR2.out.cell 2 rfl
      have r3 := bR2.out.cell 3 rfl
      have r4 := bR2.out.cell 4 rfl
      have fR := bR2.out.unfrozen
      go_wp2_with fail
      have z := (((((bR2.out.set (i := 0) (.int .i64 (backD d e).vKind)).set (i := 1) (.slice p9 (backD d e).vPath.length d9)).set (i := 2) (.string (backD d e).vTag)).set (i := 3) (.string (strT (backD d e).vTree))).set (i := 4) (.slice a9 (kidsOf (backD d e).vTree).length c9))
      have z0 := z.cell 0 rfl
      have z1 := z.cell 1 rfl
      have z2 := z.cell 2 rfl
      have z3 := z.cell 3 rfl
      have z4 := z.cell 4 rfl
      refine bodyPost_ret (v := .tuple #[.agg #[.int .i64 (backD d e).vKind, .slice p9 (backD d e).vPath.length d9, .string (backD d e).vTag, .string (strT (backD d e).vTree), .slice a9 (kidsOf (backD d e).vTree).length c9], .bool true]) (by simp [results, Try.results18, go_sem, z0, z1, z2, z3, z4]) rfl ?_
      exact UnR.yes (n := n9) (fs := fs9) hso.out (EditO_stays _ _ _ _ _ _ (fun b q => putCells_other [.int .i64 (backD d e).vKind, .slice p9 (backD d e).vPath.length d9, .string (backD d e).vTag, .string (strT (backD d e).vTree), .slice a9 (kidsOf (backD d e).vTree).length c9] w2 (w.heap.size + 1 + 1) 0 b (by have := lo9h.out b q; omega)) ho9h.out) (fun b q => by have := lo9h.out b q; omega) (putCells_below [.int .i64 (backD d e).vKind, .slice p9 (backD d e).vPath.length d9, .string (backD d e).vTag, .string (strT (backD d e).vTree), .slice a9 (kidsOf (backD d e).vTree).length c9] _ _ _ (w.heap.size + 1 + 1) 0 (by omega) hB2.out)
    · have htgs : Hid ((strT (endP d e.vPath)).size ≤ maxLen) := (ht_tag (ht.out _ (Below.refl _ _)) hok0)
      clear hok0
      have hbk : Hid (backD d e = ⟨3, e.vPath, strT (endP d e.vPath), zeroT⟩) := by show _ = _; simp [backD, hk]
      clear hk
      go_wp2_with fail
      refine (editRen_any (hp.out _ hB1a.out) hlen.out htgs.out).mono ?_
      rw [← hbk.out]
      rintro e2 w2 ⟨cs9, fs9, n9, rfl, ho9, lo9, hb9⟩
      obtain ⟨p9, d9, a9, c9, rfl, _, _, _⟩ := (EditO_at (lo := 0) ho9 (fun _ _ => Nat.zero_le _)).form
      have ho9h : Hid (EditO n9 w2 [.int .i64 (backD d e).vKind, .slice p9 (backD d e).vPath.length d9, .string (backD d e).vTag, .string (strT (backD d e).vTree), .slice a9 (kidsOf (backD d e).vTree).length c9] (backD d e) fs9) := ho9
      have hB2 : Hid (Below w.heap.size w w2) := hB1a.out.trans (hb9.mono hB1a.out.size)
      have bR2 : Hid (Box w2 (w.heap.size + 1 + 1) [.int .i64 0, .slice none 0 0, .string ⟨#[]⟩, .string ⟨#[]⟩, .slice none 0 0] 29) := bR1a.out.below hb9 bR1a.out.lt
      have lo9h : Hid (∀ b ∈ fs9, w.heap.size + 1 + 1 + 1 ≤ b) := fun b hb => by have h1 := lo9 b hb; have h2 := bR1a.out.lt; omega
      clear ho9 lo9 hb9
      have r0 := bR2.out.cell 0 rfl
      have r1 := bR2.out.cell 1 rfl
      have r2 := bR2.out.cell 2 rfl
      have r3 := bR2.out.cell 3 rfl
      have r4 := bR2.out.cell 4 rfl
      have fR := bR2.out.unfrozen
      go_wp2_with fail
      have z := (((((bR2.out.set (i := 0) (.int .i64 (backD d e).vKind)).set (i := 1) (.slice p9 (backD d e).vPath.length d9)).set (i := 2) (.string (backD d e).vTag)).set (i := 3) (.string (strT (backD d e).vTree))).set (i := 4) (.slice a9 (kidsOf (backD d e).vTree).length c9))
      have z0 := z.cell 0 rfl
      have z1 := z.cell 1 rfl
      have z2 := z.cell 2 rfl
      have z3 := z.cell 3 rfl
      have z4 := z.cell 4 rfl
      refine bodyPost_ret (v := .tuple #[.agg #[.int .i64 (backD d e).vKind, .slice p9 (backD d e).vPath.length d9, .string (backD d e).vTag, .string (strT (backD d e).vTree), .slice a9 (kidsOf (backD d e).vTree).length c9], .bool true]) (by simp [results, Try.results18, go_sem, z0, z1, z2, z3, z4]) rfl ?_
      exact UnR.yes (n := n9) (fs := fs9) hso.out (EditO_stays _ _ _ _ _ _ (fun b q => putCells_other [.int .i64 (backD d e).vKind, .slice p9 (backD d e).vPath.length d9, .string (backD d e).vTag, .string (strT (backD d e).vTree), .slice a9 (kidsOf (backD d e).vTree).length c9] w2 (w.heap.size + 1 + 1) 0 b (by have := lo9h.out b q; omega)) ho9h.out) (fun b q => by have := lo9h.out b q; omega) (putCells_below [.int .i64 (backD d e).vKind, .slice p9 (backD d e).vPath.length d9, .string (backD d e).vTag, .string (strT (backD d e).vTree), .slice a9 (kidsOf (backD d e).vTree).length c9] _ _ _ (w.heap.size + 1 + 1) 0 (by omega) hB2.out)
  · have hno : Hid (undoneD d e = none) := by show _ = _; unfold undoneD; rw [hno0]
    have hB1a : Hid (Below w.heap.size w (w1.alloc (.cells #[.string ⟨#[]⟩, .slice none 0 0] 26))) := hB1.out.alloc hB1.out.size _
    have bR1a : Hid (Box (w1.alloc (.cells #[.string ⟨#[]⟩, .slice none 0 0] 26)) (w.heap.size + 1 + 1) [.int .i64 0, .slice none 0 0, .string ⟨#[]⟩, .string ⟨#[]⟩, .slice none 0 0] 29) := bR1.out.alloc _
    clear hno0
    have r0 := bR1a.out.cell 0 rfl
    have r1 := bR1a.out.cell 1 rfl
    have r2 := bR1a.out.cell 2 rfl
    have r3 := bR1a.out.cell 3 rfl
    have r4 := bR1a.out.cell 4 rfl
    have fR := bR1a.out.unfrozen
    go_wp2_with fail
    have z := (((((bR1a.out.set (i := 0) (.int .i64 0)).set (i := 1) (.slice none 0 0)).set (i := 2) (.string ⟨#[]⟩)).set (i := 3) (.string ⟨#[]⟩)).set (i := 4) (.slice none 0 0))
    have z0 := z.cell 0 rfl
    have z1 := z.cell 1 rfl
    have z2 := z.cell 2 rfl
    have z3 := z.cell 3 rfl
    have z4 := z.cell 4 rfl
    refine bodyPost_ret (v := .tuple #[.agg #[.int .i64 0, .slice none 0 0, .string ⟨#[]⟩, .string ⟨#[]⟩, .slice none 0 0], .bool false]) (by simp [results, Try.results18, go_sem, z0, z1, z2, z3, z4]) rfl ?_
    exact UnR.no hno.out (putCells_below [.int .i64 0, .slice none 0 0, .string ⟨#[]⟩, .string ⟨#[]⟩, .slice none 0 0] _ _ _ (w.heap.size + 1 + 1) 0 (by omega) hB1a.out)
set_option maxRecDepth 100000 in
set_option maxHeartbeats 8000000 in
theorem specUndone_any {n m : Nat} {w : World} {t k : Value} {cs : List Value} {d : TD} {e : EditD} (ht0 : TreeAt w 0 n t k d) (he0 : EditAt m w 0 cs e) (hpl : e.vPath.length ≤ 1048576) :
    Calls Try.prog 19 #[.agg #[t, k], .agg cs.toArray] w fun e1 w' => UnR w w' (undoneD d e) e1 := by
  obtain ⟨rfl, _⟩ := ht0.tag
  obtain ⟨_, a0, c0, rfl⟩ := ht0.form
  obtain ⟨ap, cp, at1, ct, rfl, hp0, _, _⟩ := he0.form
  have he : Hid (∀ W, Below w.heap.size w W → EditAt m W 0 [.int .i64 e.vKind, .slice ap e.vPath.length cp, .string e.vTag, .string (strT e.vTree), .slice at1 (kidsOf e.vTree).length ct] e) := fun W hb => EditAt.stays _ _ _ _ _ _ (.of_below hb) he0
  have ht : Hid (∀ W, Below w.heap.size w W → TreeAt W 0 n (.string (strT d)) (.slice a0 (kidsOf d).length c0) d) := fun W hb => ht0.below hb
  have hp : Hid (∀ W, Below w.heap.size w W → SeqAt 1 IntAt W 0 (.slice ap e.vPath.length cp) e.vPath) := fun W hb => hp0.below intAt_stays hb
  have hlen : Hid (e.vPath.length ≤ 1048576) := hpl
  clear ht0 he0 hp0
  have hB0 : Hid (Below w.heap.size w (((w.alloc (.cells #[.string (strT d), .slice a0 (kidsOf d).length c0] 26)).alloc (.cells #[.int .i64 e.vKind, .slice ap e.vPath.length cp, .string e.vTag, .string (strT e.vTree), .slice at1 (kidsOf e.vTree).length ct] 29)).alloc (.cells #[.int .i64 0, .slice none 0 0, .string ⟨#[]⟩, .string ⟨#[]⟩, .slice none 0 0] 29))) := (((Below.refl _ _).alloc (Nat.le_refl _) _).alloc (by simp) _).alloc (by simp; omega) _
  have bT0 : Hid (Box (((w.alloc (.cells #[.string (strT d), .slice a0 (kidsOf d).length c0] 26)).alloc (.cells #[.int .i64 e.vKind, .slice ap e.vPath.length cp, .string e.vTag, .string (strT e.vTree), .slice at1 (kidsOf e.vTree).length ct] 29)).alloc (.cells #[.int .i64 0, .slice none 0 0, .string ⟨#[]⟩, .string ⟨#[]⟩, .slice none 0 0] 29)) w.heap.size [.string (strT d), .slice a0 (kidsOf d).length c0] 26) := ((Box.new w [.string (strT d), .slice a0 (kidsOf d).length c0] 26).alloc _).alloc _
  have bE0 : Hid (Box (((w.alloc (.cells #[.string (strT d), .slice a0 (kidsOf d).length c0] 26)).alloc (.cells #[.int .i64 e.vKind, .slice ap e.vPath.length cp, .string e.vTag, .string (strT e.vTree), .slice at1 (kidsOf e.vTree).length ct] 29)).alloc (.cells #[.int .i64 0, .slice none 0 0, .string ⟨#[]⟩, .string ⟨#[]⟩, .slice none 0 0] 29)) (w.heap.size + 1) [.int .i64 e.vKind, .slice ap e.vPath.length cp, .string e.vTag, .string (strT e.vTree), .slice at1 (kidsOf e.vTree).length ct] 29) := by
    have q := (Box.new (w.alloc (.cells #[.string (strT d), .slice a0 (kidsOf d).length c0] 26)) [.int .i64 e.vKind, .slice ap e.vPath.length cp, .string e.vTag, .string (strT e.vTree), .slice at1 (kidsOf e.vTree).length ct] 29).alloc (.cells #[.int .i64 0, .slice none 0 0, .string ⟨#[]⟩, .string ⟨#[]⟩, .slice none 0 0] 29)
    simpa only [World.size_alloc, Hid] using q
  have bR0 : Hid (Box (((w.alloc (.cells #[.string (strT d), .slice a0 (kidsOf d).length c0] 26)).alloc (.cells #[.int .i64 e.vKind, .slice ap e.vPath.length cp, .string e.vTag, .string (strT e.vTree), .slice at1 (kidsOf e.vTree).length ct] 29)).alloc (.cells #[.int .i64 0, .slice none 0 0, .string ⟨#[]⟩, .string ⟨#[]⟩, .slice none 0 0] 29)) (w.heap.size + 1 + 1) [.int .i64 0, .slice none 0 0, .string ⟨#[]⟩, .string ⟨#[]⟩, .slice none 0 0] 29) := by
    have q := Box.new ((w.alloc (.cells #[.string (strT d), .slice a0 (kidsOf d).length c0] 26)).alloc (.cells #[.int .i64 e.vKind, .slice ap e.vPath.length cp, .string e.vTag, .string (strT e.vTree), .slice at1 (kidsOf e.vTree).length ct] 29)) [.int .i64 0, .slice none 0 0, .string ⟨#[]⟩, .string ⟨#[]⟩, .slice none 0 0] 29
    simpa only [World.size_alloc, Hid] using q
  go_enter Try.func19, Try.ntmps19
  have p0 := bE0.out.cell 0 rfl
  have p1 := bE0.out.cell 1 rfl
  have p2 := bE0.out.cell 2 rfl
  have p3 := bE0.out.cell 3 rfl
  have p4 := bE0.out.cell 4 rfl
  have t0 := bT0.out.cell 0 rfl
  have t1 := bT0.out.cell 1 rfl
  go_wp2_with fail
  refine (specEditOk_any (ht.out _ hB0.out) (he.out _ hB0.out)).mono ?_
  rintro e1 w1 ⟨rfl, hb1⟩
  have hB1 : Hid (Below w.heap.size w w1) := hB0.out.trans (hb1.mono hB0.out.size)
  have bT1 : Hid (Box w1 w.heap.size [.string (strT d), .slice a0 (kidsOf d).length c0] 26) := bT0.out.below hb1 bT0.out.lt
  have bE1 : Hid (Box w1 (w.heap.size + 1) [.int .i64 e.vKind, .slice ap e.vPath.length cp, .string e.vTag, .string (strT e.vTree), .slice at1 (kidsOf e.vTree).length ct] 29) := bE0.out.below hb1 bE0.out.lt
  have bR1 : Hid (Box w1 (w.heap.size + 1 + 1) [.int .i64 0, .slice none 0 0, .string ⟨#[]⟩, .string ⟨#[]⟩, .slice none 0 0] 29) := bR0.out.below hb1 bR0.out.lt
  clear hb1 p0 p1 p2 p3 p4 t0 t1 bE0 bT0 bR0 hB0
  cases hed : editedD d e with
  | none =>
    have hno : Hid (undoneD d e = none) := by show _ = _; unfold undoneD; rw [hed]
    simp only [Option.isSome_none]
    clear hed
    have r0 := bR1.out.cell 0 rfl
    have r1 := bR1.out.cell 1 rfl
    have r2 := bR1.out.cell 2 rfl
    have r3 := bR1.out.cell 3 rfl
    have r4 := bR1.out.cell 4 rfl
    have fR := bR1.out.unfrozen
    go_wp2_with fail
    have z := (((((bR1.out.set (i := 0) (.int .i64 0)).set (i := 1) (.slice none 0 0)).set (i := 2) (.string ⟨#[]⟩)).set (i := 3) (.string ⟨#[]⟩)).set (i := 4) (.slice none 0 0))
    have z0 := z.cell 0 rfl
    have z1 := z.cell 1 rfl
    have z2 := z.cell 2 rfl
    have z3 := z.cell 3 rfl
    have z4 := z.cell 4 rfl
    refine bodyPost_ret (v := .tuple #[.agg #[.int .i64 0, .slice none 0 0, .string ⟨#[]⟩, .string ⟨#[]⟩, .slice none 0 0], .bool false]) (by simp [results, Try.results19, go_sem, z0, z1, z2, z3, z4]) rfl ?_
    exact UnR.no hno.out (putCells_below [.int .i64 0, .slice none 0 0, .string ⟨#[]⟩, .string ⟨#[]⟩, .slice none 0 0] _ _ _ (w.heap.size + 1 + 1) 0 (by omega) hB1.out)
  | some y =>
    have hso : Hid (undoneD d e = some (backD d e)) := by show _ = _; unfold undoneD; rw [hed]
    have hok : Hid (e.vKind ≠ 1 → okP d e.vPath = true) := edited_path hed
    have hk13 : Hid (e.vKind = 1 ∨ e.vKind = 2 ∨ e.vKind = 3) := form_kind (edited_ok hed).2
    have hRd : Hid (RightT d) := treeB_right (edited_ok hed).1
    simp only [Option.isSome_some]
    clear hed
    obtain ⟨iI, hi0, hz0, hs0, hy0⟩ := info_parts2 infoI
    have hiI : Hid (Try.prog.info? 2 = some iI) := hi0
    have heI : Hid (iI.zero = some (.int .i64 0) ∧ iI.size = 1 ∧ iI.bytes = 8) := ⟨hz0, hs0, hy0⟩
    clear hi0 hz0 hs0 hy0
    have bE1a : Hid (Box (w1.alloc (.cells #[] 2)) (w.heap.size + 1) [.int .i64 e.vKind, .slice ap e.vPath.length cp, .string e.vTag, .string (strT e.vTree), .slice at1 (kidsOf e.vTree).length ct] 29) := bE1.out.alloc _
    have p1 := bE1a.out.cell 1 rfl
    have hpV : Hid (SeqAt 1 IntAt (w1.alloc (.cells #[] 2)) 0 (.slice ap e.vPath.length cp) e.vPath) := hp.out _ (hB1.out.alloc hB1.out.size _)
    go_wp2_with (at_builtin; refine wpList_append_ints rfl _ _ 27 rfl w1.heap.size 0 2 iI Try.underlying27 hiI.out heI.out.1 heI.out.2.1 heI.out.2.2 (.slice (some ⟨w1.heap.size, 0, none⟩) 0 0) 0 [] rfl (by simp) (row_start (Nat.le_refl _)) _ e.vPath rfl hpV.out (by have := hlen.out; omega) (by simp) ?_; intro v w2 hown hgrow hnn; have ho := hown; rw [Nat.zero_add, List.nil_append] at ho; obtain ⟨fp, hs2, hlo2⟩ := seqOwn_of_row ho (seqAt_inI hpV.out); obtain ⟨p9, d9, rfl⟩ := hs2.form; have hb2 : Below w1.heap.size w1 w2 := ((Below.refl _ _).alloc (Nat.le_refl _) _).grown hgrow (by simp) (fun k e => by simp [Value.ownBlock] at e; omega); have hs2h : Hid (SeqOwn 1 IntOwn w2 (.slice p9 e.vPath.length d9) e.vPath fp) := hs2; have s1 : w.heap.size + 1 + 1 < w1.heap.size := bR1.out.lt; have lo2h : Hid (∀ b ∈ fp, w.heap.size + 1 + 1 + 1 ≤ b) := fun b hb => (by have := hlo2 b hb; omega); have hB2 : Hid (Below w.heap.size w w2) := hB1.out.trans (hb2.mono hB1.out.size); have bT2 : Hid (Box w2 w.heap.size [.string (strT d), .slice a0 (kidsOf d).length c0] 26) := bT1.out.below hb2 bT1.out.lt; have bE2 : Hid (Box w2 (w.heap.size + 1) [.int .i64 e.vKind, .slice ap e.vPath.length cp, .string e.vTag, .string (strT e.vTree), .slice at1 (kidsOf e.vTree).length ct] 29) := bE1.out.below hb2 bE1.out.lt; have bR2 : Hid (Box w2 (w.heap.size + 1 + 1) [.int .i64 0, .slice none 0 0, .string ⟨#[]⟩, .string ⟨#[]⟩, .slice none 0 0] 29) := bR1.out.below hb2 bR1.out.lt; clear hown hgrow hnn ho hs2 hlo2 hb2 s1 p1 bT1 bE1 bE1a bR1 hpV hB1 hiI heI; have t0 := bT2.out.cell 0 rfl; have t1 := bT2.out.cell 1 rfl; have p1 := bE2.out.cell 1 rfl)
    refine (l9At_any (ht.out _ hB2.out) (hp.out _ hB2.out)).mono ?_
    rintro e1 w3 ⟨hat, hb3⟩
    have hB3 : Hid (Below w.heap.size w w3) := hB2.out.trans (hb3.mono hB2.out.size)
    have bE3 : Hid (Box w3 (w.heap.size + 1) [.int .i64 e.vKind, .slice ap e.vPath.length cp, .string e.vTag, .string (strT e.vTree), .slice at1 (kidsOf e.vTree).length ct] 29) := bE2.out.below hb3 bE2.out.lt
    have bR3 : Hid (Box w3 (w.heap.size + 1 + 1) [.int .i64 0, .slice none 0 0, .string ⟨#[]⟩, .string ⟨#[]⟩, .slice none 0 0] 29) := bR2.out.below hb3 bR2.out.lt
    have hs3h : Hid (SeqOwn 1 IntOwn w3 (.slice p9 e.vPath.length d9) e.vPath fp) := SeqOwn.stays intOwn_stays hs2h.out (fun b q => hb3.block b (hs2h.out.lt intOwn_lt b q))
    rcases hat with ⟨hokp, nx, ax, cx, rfl, htx0, _⟩ | ⟨hokp, rfl⟩
    · have hRx : Hid (RightT (endP d e.vPath)) := hRd.out.ends _ hokp
      have htx : Hid (TreeAt w3 0 nx (.string (strT (endP d e.vPath))) (.slice ax (kidsOf (endP d e.vPath)).length cx) (endP d e.vPath)) := htx0.below hb3
      have htgx : Hid ((strT (endP d e.vPath)).size ≤ maxLen) := htx0.tag.2
      clear htx0 hokp hb3 t0 t1 p1 bE2 bR2 bT2 hs2h hB2
      have hb4 : Hid (Below w3.heap.size w3 (w3.alloc (.cells #[.string (strT (endP d e.vPath)), .slice ax (kidsOf (endP d e.vPath)).length cx] 26))) := (Below.refl _ _).alloc (Nat.le_refl _) _
      have hB4 : Hid (Below w.heap.size w (w3.alloc (.cells #[.string (strT (endP d e.vPath)), .slice ax (kidsOf (endP d e.vPath)).length cx] 26))) := hB3.out.trans (hb4.out.mono hB3.out.size)
      have bE4 : Hid (Box (w3.alloc (.cells #[.string (strT (endP d e.vPath)), .slice ax (kidsOf (endP d e.vPath)).length cx] 26)) (w.heap.size + 1) [.int .i64 e.vKind, .slice ap e.vPath.length cp, .string e.vTag, .string (strT e.vTree), .slice at1 (kidsOf e.vTree).length ct] 29) := bE3.out.alloc _
      have bR4 : Hid (Box (w3.alloc (.cells #[.string (strT (endP d e.vPath)), .slice ax (kidsOf (endP d e.vPath)).length cx] 26)) (w.heap.size + 1 + 1) [.int .i64 0, .slice none 0 0, .string ⟨#[]⟩, .string ⟨#[]⟩, .slice none 0 0] 29) := bR3.out.alloc _
      have bX4 : Hid (Box (w3.alloc (.cells #[.string (strT (endP d e.vPath)), .slice ax (kidsOf (endP d e.vPath)).length cx] 26)) w3.heap.size [.string (strT (endP d e.vPath)), .slice ax (kidsOf (endP d e.vPath)).length cx] 26) := Box.new w3 _ _
      have hs4h : Hid (SeqOwn 1 IntOwn (w3.alloc (.cells #[.string (strT (endP d e.vPath)), .slice ax (kidsOf (endP d e.vPath)).length cx] 26)) (.slice p9 e.vPath.length d9) e.vPath fp) := SeqOwn.stays intOwn_stays hs3h.out (fun b q => hb4.out.block b (hs3h.out.lt intOwn_lt b q))
      have htx4 : Hid (TreeAt (w3.alloc (.cells #[.string (strT (endP d e.vPath)), .slice ax (kidsOf (endP d e.vPath)).length cx] 26)) 0 nx (.string (strT (endP d e.vPath))) (.slice ax (kidsOf (endP d e.vPath)).length cx) (endP d e.vPath)) := htx.out.below hb4.out
      clear bE3 bR3 hs3h htx
      have p0 := bE4.out.cell 0 rfl
      have x0 := bX4.out.cell 0 rfl
      have x1 := bX4.out.cell 1 rfl
      rcases hk13.out with hk | hk | hk
      · rw [hk] at p0
        have hbk : Hid (backD d e = ⟨2, e.vPath, ⟨#[]⟩, zeroT⟩) := by show _ = _; simp [backD, hk]
        clear hk
        have r0 := bR4.out.cell 0 rfl
        have r1 := bR4.out.cell 1 rfl
        have r2 := bR4.out.cell 2 rfl
        have r3 := bR4.out.cell 3 rfl
        have r4 := bR4.out.cell 4 rfl
        have fR := bR4.out.unfrozen
        go_wp2_with fail
        have z := (((((bR4.out.set (i := 0) (.int .i64 2)).set (i := 1) (.slice p9 e.vPath.length d9)).set (i := 2) (.string ⟨#[]⟩)).set (i := 3) (.string ⟨#[]⟩)).set (i := 4) (.slice none 0 0))
        have z0 := z.cell 0 rfl
        have z1 := z.cell 1 rfl
        have z2 := z.cell 2 rfl
        have z3 := z.cell 3 rfl
        have z4 := z.cell 4 rfl
        refine bodyPost_ret (v := .tuple #[.agg #[.int .i64 2, .slice p9 e.vPath.length d9, .string ⟨#[]⟩, .string ⟨#[]⟩, .slice none 0 0], .bool true]) (by simp [results, Try.results19, go_sem, z0, z1, z2, z3, z4]) rfl ?_
        exact UnR.yes (x := ⟨2, e.vPath, ⟨#[]⟩, zeroT⟩) (n := 1) (fs := fp ++ []) (by rw [hso.out, hbk.out]) ⟨_, _, fp, [], rfl, (show InI (2 : Int) by unfold InI; omega), SeqOwn.stays intOwn_stays hs4h.out (fun b q => putCells_other [.int .i64 2, .slice p9 e.vPath.length d9, .string ⟨#[]⟩, .string ⟨#[]⟩, .slice none 0 0] _ (w.heap.size + 1 + 1) 0 b (by have := lo2h.out b q; omega)), Nat.zero_le _, treeO_zero _, rfl, by rw [List.append_nil]; exact hs4h.out.nodup⟩ (fun b q => by rw [List.append_nil] at q; have := lo2h.out b q; omega) (putCells_below [.int .i64 2, .slice p9 e.vPath.length d9, .string ⟨#[]⟩, .string ⟨#[]⟩, .slice none 0 0] _ _ _ (w.heap.size + 1 + 1) 0 (by omega) hB4.out)
      · rw [hk] at p0
        have hbk : Hid (backD d e = ⟨1, e.vPath, ⟨#[]⟩, endP d e.vPath⟩) := by show _ = _; simp [backD, hk]
        clear hk
        go_wp2_with fail
        refine (cpS_all nx _ 0 _ _ _ htx4.out hRx.out).mono ?_
        rintro e1 w5 ⟨⟨cs5, ft, rfl, ho5, nd5, lo5⟩, hb5⟩
        obtain ⟨k5, rfl, hs5, _⟩ := ho5.opened
        obtain ⟨a5, c5, rfl⟩ := hs5.form
        have hB5 : Hid (Below w.heap.size w w5) := hB4.out.trans (hb5.mono hB4.out.size)
        have bR5 : Hid (Box w5 (w.heap.size + 1 + 1) [.int .i64 0, .slice none 0 0, .string ⟨#[]⟩, .string ⟨#[]⟩, .slice none 0 0] 29) := bR4.out.below hb5 bR4.out.lt
        have hs5h : Hid (SeqOwn 1 IntOwn w5 (.slice p9 e.vPath.length d9) e.vPath fp) := SeqOwn.stays intOwn_stays hs4h.out (fun b q => hb5.block b (hs4h.out.lt intOwn_lt b q))
        have ho5h : Hid (TreeO nx w5 [.string (strT (endP d e.vPath)), .slice a5 (kidsOf (endP d e.vPath)).length c5] (endP d e.vPath) ft) := ho5
        have lo5h : Hid (∀ b ∈ ft, (w3.alloc (.cells #[.string (strT (endP d e.vPath)), .slice ax (kidsOf (endP d e.vPath)).length cx] 26)).heap.size ≤ b) := lo5
        have nd5h : Hid (ft.Nodup) := nd5
        have hfp4 : Hid (∀ b ∈ fp, b < (w3.alloc (.cells #[.string (strT (endP d e.vPath)), .slice ax (kidsOf (endP d e.vPath)).length cx] 26)).heap.size) := hs4h.out.lt intOwn_lt
        have s4 : Hid (w.heap.size + 1 + 1 < (w3.alloc (.cells #[.string (strT (endP d e.vPath)), .slice ax (kidsOf (endP d e.vPath)).length cx] 26)).heap.size) := bR4.out.lt
        clear ho5 hs5 nd5 lo5 hb5 p0 x0 x1
        have r0 := bR5.out.cell 0 rfl
        have r1 := bR5.out.cell 1 rfl
        have r2 := bR5.out.cell 2 rfl
        have r3 := bR5.out.cell 3 rfl
        have r4 := bR5.out.cell 4 rfl
        have fR := bR5.out.unfrozen
        go_wp2_with fail
        have z := (((((bR5.out.set (i := 0) (.int .i64 1)).set (i := 1) (.slice p9 e.vPath.length d9)).set (i := 2) (.string ⟨#[]⟩)).set (i := 3) (.string (strT (endP d e.vPath)))).set (i := 4) (.slice a5 (kidsOf (endP d e.vPath)).length c5))
        have z0 := z.cell 0 rfl
        have z1 := z.cell 1 rfl
        have z2 := z.cell 2 rfl
        have z3 := z.cell 3 rfl
        have z4 := z.cell 4 rfl
        refine bodyPost_ret (v := .tuple #[.agg #[.int .i64 1, .slice p9 e.vPath.length d9, .string ⟨#[]⟩, .string (strT (endP d e.vPath)), .slice a5 (kidsOf (endP d e.vPath)).length c5], .bool true]) (by simp [results, Try.results19, go_sem, z0, z1, z2, z3, z4]) rfl ?_
        refine UnR.yes (x := ⟨1, e.vPath, ⟨#[]⟩, endP d e.vPath⟩) (n := nx) (fs := fp ++ ft) (by rw [hso.out, hbk.out]) ⟨_, _, fp, ft, rfl, (show InI (1 : Int) by unfold InI; omega), SeqOwn.stays intOwn_stays hs5h.out (fun b q => putCells_other [.int .i64 1, .slice p9 e.vPath.length d9, .string ⟨#[]⟩, .string (strT (endP d e.vPath)), .slice a5 (kidsOf (endP d e.vPath)).length c5] _ (w.heap.size + 1 + 1) 0 b (by have := lo2h.out b q; omega)), Nat.zero_le _, TreeO_stays nx _ _ _ _ _ (fun b q => putCells_other [.int .i64 1, .slice p9 e.vPath.length d9, .string ⟨#[]⟩, .string (strT (endP d e.vPath)), .slice a5 (kidsOf (endP d e.vPath)).length c5] _ (w.heap.size + 1 + 1) 0 b (by have h1 := lo5h.out b q; have h2 := s4.out; omega)) ho5h.out, rfl, List.nodup_append.2 ⟨hs5h.out.nodup, nd5h.out, fun b hb b2 hb2 e => by have h1 := hfp4.out b hb; have h2 := lo5h.out b2 hb2; omega⟩⟩ (fun b q => ?_) (putCells_below [.int .i64 1, .slice p9 e.vPath.length d9, .string ⟨#[]⟩, .string (strT (endP d e.vPath)), .slice a5 (kidsOf (endP d e.vPath)).length c5] _ _ _ (w.heap.size + 1 + 1) 0 (by omega) hB5.out)
        rcases List.mem_append.1 q with q | q
        · have := lo2h.out b q; omega
        · have h1 := lo5h.out b q; have h2 := s4.out; omega
      · rw [hk] at p0
        have hbk : Hid (backD d e = ⟨3, e.vPath, strT (endP d e.vPath), zeroT⟩) := by show _ = _; simp [backD, hk]
        clear hk
        have r0 := bR4.out.cell 0 rfl
        have r1 := bR4.out.cell 1 rfl
        have r2 := bR4.out.cell 2 rfl
        have r3 := bR4.out.cell 3 rfl
        have r4 := bR4.out.cell 4 rfl
        have fR := bR4.out.unfrozen
        go_wp2_with fail
        have z := (((((bR4.out.set (i := 0) (.int .i64 3)).set (i := 1) (.slice p9 e.vPath.length d9)).set (i := 2) (.string (strT (endP d e.vPath)))).set (i := 3) (.string ⟨#[]⟩)).set (i := 4) (.slice none 0 0))
        have z0 := z.cell 0 rfl
        have z1 := z.cell 1 rfl
        have z2 := z.cell 2 rfl
        have z3 := z.cell 3 rfl
        have z4 := z.cell 4 rfl
        refine bodyPost_ret (v := .tuple #[.agg #[.int .i64 3, .slice p9 e.vPath.length d9, .string (strT (endP d e.vPath)), .string ⟨#[]⟩, .slice none 0 0], .bool true]) (by simp [results, Try.results19, go_sem, z0, z1, z2, z3, z4]) rfl ?_
        exact UnR.yes (x := ⟨3, e.vPath, strT (endP d e.vPath), zeroT⟩) (n := 1) (fs := fp ++ []) (by rw [hso.out, hbk.out]) ⟨_, _, fp, [], rfl, (show InI (3 : Int) by unfold InI; omega), SeqOwn.stays intOwn_stays hs4h.out (fun b q => putCells_other [.int .i64 3, .slice p9 e.vPath.length d9, .string (strT (endP d e.vPath)), .string ⟨#[]⟩, .slice none 0 0] _ (w.heap.size + 1 + 1) 0 b (by have := lo2h.out b q; omega)), htgx.out, treeO_zero _, rfl, by rw [List.append_nil]; exact hs4h.out.nodup⟩ (fun b q => by rw [List.append_nil] at q; have := lo2h.out b q; omega) (putCells_below [.int .i64 3, .slice p9 e.vPath.length d9, .string (strT (endP d e.vPath)), .string ⟨#[]⟩, .slice none 0 0] _ _ _ (w.heap.size + 1 + 1) 0 (by omega) hB4.out)
    · have hk : e.vKind = 1 := Classical.byContradiction (fun q => by have h9 := hok.out q; rw [hokp] at h9; cases h9)
      clear hb3 hokp t0 t1 p1 bE2 bR2 bT2 hs2h hB2
      have hb4 : Hid (Below w3.heap.size w3 (w3.alloc (.cells #[.string ⟨#[]⟩, .slice none 0 0] 26))) := (Below.refl _ _).alloc (Nat.le_refl _) _
      have hB4 : Hid (Below w.heap.size w (w3.alloc (.cells #[.string ⟨#[]⟩, .slice none 0 0] 26))) := hB3.out.trans (hb4.out.mono hB3.out.size)
      have bE4 : Hid (Box (w3.alloc (.cells #[.string ⟨#[]⟩, .slice none 0 0] 26)) (w.heap.size + 1) [.int .i64 e.vKind, .slice ap e.vPath.length cp, .string e.vTag, .string (strT e.vTree), .slice at1 (kidsOf e.vTree).length ct] 29) := bE3.out.alloc _
      have bR4 : Hid (Box (w3.alloc (.cells #[.string ⟨#[]⟩, .slice none 0 0] 26)) (w.heap.size + 1 + 1) [.int .i64 0, .slice none 0 0, .string ⟨#[]⟩, .string ⟨#[]⟩, .slice none 0 0] 29) := bR3.out.alloc _
      have hs4h : Hid (SeqOwn 1 IntOwn (w3.alloc (.cells #[.string ⟨#[]⟩, .slice none 0 0] 26)) (.slice p9 e.vPath.length d9) e.vPath fp) := SeqOwn.stays intOwn_stays hs3h.out (fun b q => hb4.out.block b (hs3h.out.lt intOwn_lt b q))
      clear bE3 bR3 hs3h
      have p0 := bE4.out.cell 0 rfl
      rw [hk] at p0
      have hbk : Hid (backD d e = ⟨2, e.vPath, ⟨#[]⟩, zeroT⟩) := by show _ = _; simp [backD, hk]
      clear hk
      have r0 := bR4.out.cell 0 rfl
      have r1 := bR4.out.cell 1 rfl
      have r2 := bR4.out.cell 2 rfl
      have r3 := bR4.out.cell 3 rfl
      have r4 := bR4.out.cell 4 rfl
      have fR := bR4.out.unfrozen
      go_wp2_with fail
      have z := (((((bR4.out.set (i := 0) (.int .i64 2)).set (i := 1) (.slice p9 e.vPath.length d9)).set (i := 2) (.string ⟨#[]⟩)).set (i := 3) (.string ⟨#[]⟩)).set (i := 4) (.slice none 0 0))
      have z0 := z.cell 0 rfl
      have z1 := z.cell 1 rfl
      have z2 := z.cell 2 rfl
      have z3 := z.cell 3 rfl
      have z4 := z.cell 4 rfl
      refine bodyPost_ret (v := .tuple #[.agg #[.int .i64 2, .slice p9 e.vPath.length d9, .string ⟨#[]⟩, .string ⟨#[]⟩, .slice none 0 0], .bool true]) (by simp [results, Try.results19, go_sem, z0, z1, z2, z3, z4]) rfl ?_
      exact UnR.yes (x := ⟨2, e.vPath, ⟨#[]⟩, zeroT⟩) (n := 1) (fs := fp ++ []) (by rw [hso.out, hbk.out]) ⟨_, _, fp, [], rfl, (show InI (2 : Int) by unfold InI; omega), SeqOwn.stays intOwn_stays hs4h.out (fun b q => putCells_other [.int .i64 2, .slice p9 e.vPath.length d9, .string ⟨#[]⟩, .string ⟨#[]⟩, .slice none 0 0] _ (w.heap.size + 1 + 1) 0 b (by have := lo2h.out b q; omega)), Nat.zero_le _, treeO_zero _, rfl, by rw [List.append_nil]; exact hs4h.out.nodup⟩ (fun b q => by rw [List.append_nil] at q; have := lo2h.out b q; omega) (putCells_below [.int .i64 2, .slice p9 e.vPath.length d9, .string ⟨#[]⟩, .string ⟨#[]⟩, .slice none 0 0] _ _ _ (w.heap.size + 1 + 1) 0 (by omega) hB4.out)
end Go.Proofs.Ytndffcogddefiaa
