/- changedTree of the program: walked. -/
import Derived.Test.YtfncmndgdomjiaaEdCin
import Derived.Test.YtfncmndgdomjiaaEdSpec
namespace Go.Proofs.Ytfncmndgdomjiaa
open Go.RowKit Go.Deep
/-- what changedTree answers -/
def CtR (w w' : World) (d : TD) (e : EditD) (kp : Value) (e1 : Ending) : Prop :=
  ((∃ (y : TD) (cs3 : List Value) (fs3 : List Nat) (n3 : Nat) (bv : Value) (fb : List Nat), editedD d e = some y ∧ e1 = .returned (.tuple #[.agg cs3.toArray, bv, .bool true]) ∧ TreeO n3 w' cs3 y fs3 ∧ fs3.Nodup ∧ (∀ b ∈ fs3, w.heap.size ≤ b) ∧ Back w' bv d e kp fb ∧ ∀ b ∈ fb, w.heap.size ≤ b) ∨ (editedD d e = none ∧ e1 = .returned (.tuple #[.agg #[.string ⟨#[]⟩, .slice none 0 0], .nilIface, .bool false]))) ∧ Below w.heap.size w w'
theorem Box.row {w : World} {b : Nat} {cs : List Value} {T : TypeId} (h : Box w b cs T) : RowIs w b 0 cs.toArray T cs := ⟨cs.toArray, h, rfl, by simp, fun _ _ => rfl, fun m _ => by simp⟩
theorem treeO_ta {n : Nat} {w : World} {t k : Value} {d : TD} {fs : List Nat} (h : TreeO n w [t, k] d fs) : TreeAt w 0 n t k d := TreeL.at n _ _ _ (TreeO_at (lo := 0) n _ _ _ _ h (fun _ _ => Nat.zero_le _))
set_option maxRecDepth 100000 in
set_option maxHeartbeats 8000000 in
theorem changedTree_any {n m : Nat} {w : World} {t k : Value} {ap at1 : Option Addr} {cp ct : Nat} {d : TD} {e : EditD} (ht0 : TreeAt w 0 n t k d) (he0 : EditAt m w 0 [.int .i64 e.vKind, .slice ap e.vPath.length cp, .string e.vTag, .string (strT e.vTree), .slice at1 (kidsOf e.vTree).length ct] e) :
    Calls Try.prog 37 #[.agg #[t, k], .agg #[.int .i64 e.vKind, .slice ap e.vPath.length cp, .string e.vTag, .string (strT e.vTree), .slice at1 (kidsOf e.vTree).length ct]] w fun e1 w' => CtR w w' d e (.slice ap e.vPath.length cp) e1 := by
  obtain ⟨rfl, _⟩ := ht0.tag
  obtain ⟨_, a0, c0, rfl⟩ := ht0.form
  have he : Hid (∀ W, Below w.heap.size w W → EditAt m W 0 [.int .i64 e.vKind, .slice ap e.vPath.length cp, .string e.vTag, .string (strT e.vTree), .slice at1 (kidsOf e.vTree).length ct] e) := fun W hb => EditAt.stays _ _ _ _ _ _ (.of_below hb) he0
  have ht : Hid (∀ W, Below w.heap.size w W → TreeAt W 0 n (.string (strT d)) (.slice a0 (kidsOf d).length c0) d) := fun W hb => ht0.below hb
  have hed : Hid (editedD d e = if treeB d = true ∧ formB e = true then (match putD e.vKind e.vTag e.vTree e.vPath d with
    | some x => if treeB x = true then some x else none
    | none => none) else none) := rfl
  clear ht0 he0
  have hB0 : Hid (Below w.heap.size w (((w.alloc (.cells #[.string (strT d), .slice a0 (kidsOf d).length c0] 33)).alloc (.cells #[.int .i64 e.vKind, .slice ap e.vPath.length cp, .string e.vTag, .string (strT e.vTree), .slice at1 (kidsOf e.vTree).length ct] 36)).alloc (.cells #[.string ⟨#[]⟩, .slice none 0 0] 33))) := (((Below.refl _ _).alloc (Nat.le_refl _) _).alloc (by simp) _).alloc (by simp; omega) _
  have bT0 : Hid (Box (((w.alloc (.cells #[.string (strT d), .slice a0 (kidsOf d).length c0] 33)).alloc (.cells #[.int .i64 e.vKind, .slice ap e.vPath.length cp, .string e.vTag, .string (strT e.vTree), .slice at1 (kidsOf e.vTree).length ct] 36)).alloc (.cells #[.string ⟨#[]⟩, .slice none 0 0] 33)) w.heap.size [.string (strT d), .slice a0 (kidsOf d).length c0] 33) := ((Box.new w [.string (strT d), .slice a0 (kidsOf d).length c0] 33).alloc _).alloc _
  have bE0 : Hid (Box (((w.alloc (.cells #[.string (strT d), .slice a0 (kidsOf d).length c0] 33)).alloc (.cells #[.int .i64 e.vKind, .slice ap e.vPath.length cp, .string e.vTag, .string (strT e.vTree), .slice at1 (kidsOf e.vTree).length ct] 36)).alloc (.cells #[.string ⟨#[]⟩, .slice none 0 0] 33)) (w.heap.size + 1) [.int .i64 e.vKind, .slice ap e.vPath.length cp, .string e.vTag, .string (strT e.vTree), .slice at1 (kidsOf e.vTree).length ct] 36) := by
    have q := (Box.new (w.alloc (.cells #[.string (strT d), .slice a0 (kidsOf d).length c0] 33)) [.int .i64 e.vKind, .slice ap e.vPath.length cp, .string e.vTag, .string (strT e.vTree), .slice at1 (kidsOf e.vTree).length ct] 36).alloc (.cells #[.string ⟨#[]⟩, .slice none 0 0] 33)
    simpa only [World.size_alloc, Hid] using q
  have bR0 : Hid (Box (((w.alloc (.cells #[.string (strT d), .slice a0 (kidsOf d).length c0] 33)).alloc (.cells #[.int .i64 e.vKind, .slice ap e.vPath.length cp, .string e.vTag, .string (strT e.vTree), .slice at1 (kidsOf e.vTree).length ct] 36)).alloc (.cells #[.string ⟨#[]⟩, .slice none 0 0] 33)) (w.heap.size + 1 + 1) [.string ⟨#[]⟩, .slice none 0 0] 33) := by
    have q := Box.new ((w.alloc (.cells #[.string (strT d), .slice a0 (kidsOf d).length c0] 33)).alloc (.cells #[.int .i64 e.vKind, .slice ap e.vPath.length cp, .string e.vTag, .string (strT e.vTree), .slice at1 (kidsOf e.vTree).length ct] 36)) [.string ⟨#[]⟩, .slice none 0 0] 33
    simpa only [World.size_alloc, Hid] using q
  go_enter Try.func37, Try.ntmps37
  have p0 := bE0.out.cell 0 rfl
  have p1 := bE0.out.cell 1 rfl
  have p2 := bE0.out.cell 2 rfl
  have p3 := bE0.out.cell 3 rfl
  have p4 := bE0.out.cell 4 rfl
  go_wp2_with fail
  refine (rightChange_any (he.out _ hB0.out)).mono ?_
  rintro e1 w1 ⟨rfl, hb1⟩
  have hB1 : Hid (Below w.heap.size w w1) := hB0.out.trans (hb1.mono hB0.out.size)
  have bT1 : Hid (Box w1 w.heap.size [.string (strT d), .slice a0 (kidsOf d).length c0] 33) := bT0.out.below hb1 bT0.out.lt
  have bR1 : Hid (Box w1 (w.heap.size + 1 + 1) [.string ⟨#[]⟩, .slice none 0 0] 33) := bR0.out.below hb1 bR0.out.lt
  clear hb1 p0 p1 p2 p3 p4 bE0 bT0 bR0 hB0
  rcases (by cases formB e <;> simp : formB e = false ∨ formB e = true) with hf | hf
  · have hno : Hid (editedD d e = none) := edited_not (Or.inr hf)
    rw [hf]
    clear hf
    have r0 := bR1.out.cell 0 rfl
    have r1 := bR1.out.cell 1 rfl
    have fR := bR1.out.unfrozen
    go_wp2_with fail
    have z1 := Box.set (i := 1) (Box.set (i := 0) bR1.out (.string ⟨#[]⟩)) (.slice none 0 0)
    have z10 := z1.cell 0 rfl
    have z11 := z1.cell 1 rfl
    exact bodyPost_ret (v := .tuple #[.agg #[.string ⟨#[]⟩, .slice none 0 0], .nilIface, .bool false]) (by simp [results, Try.results37, go_sem, z10, z11]) rfl ⟨Or.inr ⟨hno.out, rfl⟩, putCells_below [.string ⟨#[]⟩, .slice none 0 0] _ _ _ (w.heap.size + 1 + 1) 0 (by omega) hB1.out⟩
  have hfh : Hid (formB e = true) := hf
  rw [hf]
  clear hf
  have t0 := bT1.out.cell 0 rfl
  have t1 := bT1.out.cell 1 rfl
  go_wp2_with fail
  refine (implOk_any (ht.out _ hB1.out)).mono ?_
  rintro e1 w2 ⟨rfl, hb2⟩
  have hB2 : Hid (Below w.heap.size w w2) := hB1.out.trans (hb2.mono hB1.out.size)
  have bT2 : Hid (Box w2 w.heap.size [.string (strT d), .slice a0 (kidsOf d).length c0] 33) := bT1.out.below hb2 bT1.out.lt
  have bR2 : Hid (Box w2 (w.heap.size + 1 + 1) [.string ⟨#[]⟩, .slice none 0 0] 33) := bR1.out.below hb2 bR1.out.lt
  clear hb2 t0 t1 bT1 bR1 hB1
  rcases (by cases treeB d <;> simp : treeB d = false ∨ treeB d = true) with hf | hf
  · have hno : Hid (editedD d e = none) := edited_not (Or.inl hf)
    rw [hf]
    clear hf
    have r0 := bR2.out.cell 0 rfl
    have r1 := bR2.out.cell 1 rfl
    have fR := bR2.out.unfrozen
    go_wp2_with fail
    have z1 := Box.set (i := 1) (Box.set (i := 0) bR2.out (.string ⟨#[]⟩)) (.slice none 0 0)
    have z10 := z1.cell 0 rfl
    have z11 := z1.cell 1 rfl
    exact bodyPost_ret (v := .tuple #[.agg #[.string ⟨#[]⟩, .slice none 0 0], .nilIface, .bool false]) (by simp [results, Try.results37, go_sem, z10, z11]) rfl ⟨Or.inr ⟨hno.out, rfl⟩, putCells_below [.string ⟨#[]⟩, .slice none 0 0] _ _ _ (w.heap.size + 1 + 1) 0 (by omega) hB2.out⟩
  have hdh : Hid (treeB d = true) := hf
  rw [hf]
  clear hf
  have t0 := bT2.out.cell 0 rfl
  have t1 := bT2.out.cell 1 rfl
  go_wp2_with fail
  refine (cpP_all n _ 0 _ _ d (ht.out _ hB2.out) (treeB_right hdh.out)).mono ?_
  rintro e1 w3 ⟨⟨cs3, fs3, rfl, ho3, nd3, lo3⟩, hb3⟩
  obtain ⟨k3, rfl, hs3, _⟩ := ho3.opened
  obtain ⟨a3, c3, rfl⟩ := hs3.form
  have hB3 : Hid (Below w.heap.size w w3) := hB2.out.trans (hb3.mono hB2.out.size)
  have bR3 : Hid (Box w3 (w.heap.size + 1 + 1) [.string ⟨#[]⟩, .slice none 0 0] 33) := bR2.out.below hb3 bR2.out.lt
  have ho3h : Hid (TreeP n w3 [.string (strT d), .slice a3 (kidsOf d).length c3] d fs3) := ho3
  have nd3h : Hid (fs3.Nodup) := nd3
  have lo3h : Hid (∀ b ∈ fs3, w2.heap.size ≤ b) := lo3
  have s23 : Hid (w.heap.size + 1 + 1 < w2.heap.size) := bR2.out.lt
  have s3 : Hid (w2.heap.size ≤ w3.heap.size) := hb3.size
  have hf3 : Hid (∀ b ∈ fs3, b < w3.heap.size) := TreeP_lt n _ _ _ _ ho3
  clear hb3 t0 t1 bT2 bR2 hB2 ho3 hs3 nd3 lo3
  have hb4 : Hid (Below w3.heap.size w3 (w3.alloc (.cells #[.string (strT d), .slice a3 (kidsOf d).length c3] 33))) := (Below.refl _ _).alloc (Nat.le_refl _) _
  have hB4 : Hid (Below w.heap.size w (w3.alloc (.cells #[.string (strT d), .slice a3 (kidsOf d).length c3] 33))) := hB3.out.trans (hb4.out.mono hB3.out.size)
  have bA4 : Hid (Box (w3.alloc (.cells #[.string (strT d), .slice a3 (kidsOf d).length c3] 33)) w3.heap.size [.string (strT d), .slice a3 (kidsOf d).length c3] 33) := Box.new w3 _ _
  have bR4 : Hid (Box (w3.alloc (.cells #[.string (strT d), .slice a3 (kidsOf d).length c3] 33)) (w.heap.size + 1 + 1) [.string ⟨#[]⟩, .slice none 0 0] 33) := bR3.out.alloc _
  have ho4 : Hid (TreeP n (w3.alloc (.cells #[.string (strT d), .slice a3 (kidsOf d).length c3] 33)) [.string (strT d), .slice a3 (kidsOf d).length c3] d fs3) := TreeP_stays n _ _ _ _ _ (fun b hb => hb4.out.block b (hf3.out b hb)) ho3h.out
  have hR3 : Hid (w3.heap.size ∉ fs3) := fun q => by have := hf3.out _ q; omega
  have s4 : Hid ((w3.alloc (.cells #[.string (strT d), .slice a3 (kidsOf d).length c3] 33)).heap.size = w3.heap.size + 1) := by simp [Hid]
  go_wp2_with fail
  refine (changeIn_any (lo := 0) bA4.out.row rfl ho4.out nd3h.out hR3.out (treeB_right hdh.out) (he.out _ hB4.out) hfh.out).mono ?_
  rintro e1 w5 h5
  rcases h5 with ⟨y, bv, hput, rfl, hbk0, ⟨cs5, fs5, n5, hl5, hr5, ht5, nd5, hn5, lo5⟩, hO5⟩ | ⟨hput, rfl, hb5⟩
  · obtain ⟨k5, rfl, hs5, _⟩ := ht5.opened
    obtain ⟨a5, c5, rfl⟩ := hs5.form
    have hbk : Hid (Back w5 bv d e (.slice ap e.vPath.length cp) fs3) := hbk0
    have hpt : Hid (putD e.vKind e.vTag e.vTree e.vPath d = some y) := hput
    have hr5h : Hid (RowIs w5 w3.heap.size 0 (List.toArray [.string (strT d), .slice a3 (kidsOf d).length c3]) 33 [.string (strT y), .slice a5 (kidsOf y).length c5]) := hr5
    have ht5h : Hid (TreeO n5 w5 [.string (strT y), .slice a5 (kidsOf y).length c5] y fs5) := ht5
    have nd5h : Hid (fs5.Nodup) := nd5
    have lo5h : Hid (∀ b ∈ fs5, w2.heap.size ≤ b) := fun b hb => by
      rcases lo5 b hb with q | q
      · exact lo3h.out b q
      · have h1 := s4.out; have h2 := s3.out; omega
    have hB5 : Hid (Below w.heap.size w w5) := hB4.out.trans (hO5.below (by have h1 := hB4.out.size; exact h1) (fun b hb => by
      rcases List.mem_cons.1 hb with q | q
      · have h1 := hB3.out.size; omega
      · have h1 := lo3h.out b q; have h2 := s23.out; omega))
    have bR5 : Hid (Box w5 (w.heap.size + 1 + 1) [.string ⟨#[]⟩, .slice none 0 0] 33) := (hO5.keep bR4.out.lt (fun q => by
      rcases List.mem_cons.1 q with q | q
      · have h1 := s23.out; have h2 := s3.out; omega
      · have h1 := lo3h.out _ q; have h2 := s23.out; omega)).trans bR4.out
    clear hbk0 hput hr5 ht5 nd5 lo5 hO5 hn5 hl5 hs5
    have u0 := hr5h.out.cell 0 rfl
    have u1 := hr5h.out.cell 1 rfl
    simp only [Nat.zero_add] at u0 u1
    go_wp2_with fail
    refine (implOk_any (treeO_ta ht5h.out)).mono ?_
    rintro e1 w6 ⟨rfl, hb6⟩
    have hB6 : Hid (Below w.heap.size w w6) := hB5.out.trans (hb6.mono hB5.out.size)
    have bR6 : Hid (Box w6 (w.heap.size + 1 + 1) [.string ⟨#[]⟩, .slice none 0 0] 33) := bR5.out.below hb6 bR5.out.lt
    have hr6 : Hid (RowIs w6 w3.heap.size 0 (List.toArray [.string (strT d), .slice a3 (kidsOf d).length c3]) 33 [.string (strT y), .slice a5 (kidsOf y).length c5]) := hr5h.out.below hb6
    have ht6 : Hid (TreeO n5 w6 [.string (strT y), .slice a5 (kidsOf y).length c5] y fs5) := TreeO_stays n5 _ _ _ _ _ (fun b hb => hb6.block b (TreeO_lt _ _ _ _ _ ht5h.out b hb)) ht5h.out
    have hbl : Hid (∀ b ∈ fs3, b < w5.heap.size) := fun b hb => by have h1 := hf3.out b hb; have h2 := hr5h.out.lt; omega
    have hbk6 : Hid (Back w6 bv d e (.slice ap e.vPath.length cp) fs3) := hbk.out.stays (fun b hb => hb6.block b (hbl.out b hb))
    clear hb6 u0 u1 hbk ht5h bR5 hr5h
    rcases (by cases treeB y <;> simp : treeB y = false ∨ treeB y = true) with hf | hf
    · have hno : Hid (editedD d e = none) := by show _ = _; rw [hed.out, if_pos ⟨hdh.out, hfh.out⟩, hpt.out]; simp [hf]
      rw [hf]
      clear hf
      have r0 := bR6.out.cell 0 rfl
      have r1 := bR6.out.cell 1 rfl
      have fR := bR6.out.unfrozen
      go_wp2_with fail
      have z1 := Box.set (i := 1) (Box.set (i := 0) bR6.out (.string ⟨#[]⟩)) (.slice none 0 0)
      have z10 := z1.cell 0 rfl
      have z11 := z1.cell 1 rfl
      exact bodyPost_ret (v := .tuple #[.agg #[.string ⟨#[]⟩, .slice none 0 0], .nilIface, .bool false]) (by simp [results, Try.results37, go_sem, z10, z11]) rfl ⟨Or.inr ⟨hno.out, rfl⟩, putCells_below [.string ⟨#[]⟩, .slice none 0 0] _ _ _ (w.heap.size + 1 + 1) 0 (by omega) hB6.out⟩
    have hso : Hid (editedD d e = some y) := by show _ = _; rw [hed.out, if_pos ⟨hdh.out, hfh.out⟩, hpt.out]; simp [hf]
    rw [hf]
    clear hf
    have u0 := hr6.out.cell 0 rfl
    have u1 := hr6.out.cell 1 rfl
    simp only [Nat.zero_add] at u0 u1
    have r0 := bR6.out.cell 0 rfl
    have r1 := bR6.out.cell 1 rfl
    have fR := bR6.out.unfrozen
    go_wp2_with fail
    have z1 := Box.set (i := 1) (Box.set (i := 0) bR6.out (.string (strT y))) (.slice a5 (kidsOf y).length c5)
    have z10 := z1.cell 0 rfl
    have z11 := z1.cell 1 rfl
    refine bodyPost_ret (v := .tuple #[.agg #[.string (strT y), .slice a5 (kidsOf y).length c5], bv, .bool true]) (by simp [results, Try.results37, go_sem, z10, z11]) rfl ?_
    refine ⟨Or.inl ⟨y, [.string (strT y), .slice a5 (kidsOf y).length c5], fs5, n5, bv, fs3, hso.out, rfl, TreeO_stays n5 _ _ _ _ _ (fun b q => putCells_other [.string (strT y), .slice a5 (kidsOf y).length c5] w6 (w.heap.size + 1 + 1) 0 b (by have := lo5h.out b q; have := s23.out; omega)) ht6.out, nd5h.out, fun b q => by have := lo5h.out b q; have := s23.out; omega, hbk6.out.stays (fun b q => putCells_other [.string (strT y), .slice a5 (kidsOf y).length c5] w6 (w.heap.size + 1 + 1) 0 b (by have := lo3h.out b q; have := s23.out; omega)), fun b q => by have := lo3h.out b q; have := s23.out; omega⟩, putCells_below [.string (strT y), .slice a5 (kidsOf y).length c5] _ _ _ (w.heap.size + 1 + 1) 0 (by omega) hB6.out⟩
  · have hno : Hid (editedD d e = none) := by show _ = _; rw [hed.out, if_pos ⟨hdh.out, hfh.out⟩, hput]
    have hB5 : Hid (Below w.heap.size w w5) := hB4.out.trans (hb5.mono hB4.out.size)
    have bR5 : Hid (Box w5 (w.heap.size + 1 + 1) [.string ⟨#[]⟩, .slice none 0 0] 33) := bR4.out.below hb5 bR4.out.lt
    clear hput hb5
    have r0 := bR5.out.cell 0 rfl
    have r1 := bR5.out.cell 1 rfl
    have fR := bR5.out.unfrozen
    go_wp2_with fail
    have z1 := Box.set (i := 1) (Box.set (i := 0) bR5.out (.string ⟨#[]⟩)) (.slice none 0 0)
    have z10 := z1.cell 0 rfl
    have z11 := z1.cell 1 rfl
    exact bodyPost_ret (v := .tuple #[.agg #[.string ⟨#[]⟩, .slice none 0 0], .nilIface, .bool false]) (by simp [results, Try.results37, go_sem, z10, z11]) rfl ⟨Or.inr ⟨hno.out, rfl⟩, putCells_below [.string ⟨#[]⟩, .slice none 0 0] _ _ _ (w.heap.size + 1 + 1) 0 (by omega) hB5.out⟩
end Go.Proofs.Ytfncmndgdomjiaa
