/- Edited and EditOk of the program, EditOk of the specification: walked. -/
import Derived.Test.YtfncmndgdomjiaaEdCt
namespace Go.Proofs.Ytfncmndgdomjiaa
open Go.RowKit Go.Deep
set_option maxRecDepth 100000 in
set_option maxHeartbeats 8000000 in
theorem implEdited_any {n m : Nat} {w : World} {t k : Value} {cs : List Value} {d : TD} {e : EditD} (ht0 : TreeAt w 0 n t k d) (he0 : EditAt m w 0 cs e) :
    Calls Try.prog 17 #[.agg #[t, k], .agg cs.toArray] w fun e1 w' => EdR w w' (editedD d e) e1 := by
  obtain ⟨rfl, _⟩ := ht0.tag
  obtain ⟨_, a0, c0, rfl⟩ := ht0.form
  obtain ⟨ap, cp, at1, ct, rfl, _, _, _⟩ := he0.form
  have he : Hid (∀ W, Below w.heap.size w W → EditAt m W 0 [.int .i64 e.vKind, .slice ap e.vPath.length cp, .string e.vTag, .string (strT e.vTree), .slice at1 (kidsOf e.vTree).length ct] e) := fun W hb => EditAt.stays _ _ _ _ _ _ (.of_below hb) he0
  have ht : Hid (∀ W, Below w.heap.size w W → TreeAt W 0 n (.string (strT d)) (.slice a0 (kidsOf d).length c0) d) := fun W hb => ht0.below hb
  clear ht0 he0
  have hB0 : Hid (Below w.heap.size w (((w.alloc (.cells #[.string (strT d), .slice a0 (kidsOf d).length c0] 33)).alloc (.cells #[.int .i64 e.vKind, .slice ap e.vPath.length cp, .string e.vTag, .string (strT e.vTree), .slice at1 (kidsOf e.vTree).length ct] 36)).alloc (.cells #[.string ⟨#[]⟩, .slice none 0 0] 33))) := (((Below.refl _ _).alloc (Nat.le_refl _) _).alloc (by simp) _).alloc (by simp; omega) _
  have bT0 : Hid (Box (((w.alloc (.cells #[.string (strT d), .slice a0 (kidsOf d).length c0] 33)).alloc (.cells #[.int .i64 e.vKind, .slice ap e.vPath.length cp, .string e.vTag, .string (strT e.vTree), .slice at1 (kidsOf e.vTree).length ct] 36)).alloc (.cells #[.string ⟨#[]⟩, .slice none 0 0] 33)) w.heap.size [.string (strT d), .slice a0 (kidsOf d).length c0] 33) := ((Box.new w [.string (strT d), .slice a0 (kidsOf d).length c0] 33).alloc _).alloc _
  have bE0 : Hid (Box (((w.alloc (.cells #[.string (strT d), .slice a0 (kidsOf d).length c0] 33)).alloc (.cells #[.int .i64 e.vKind, .slice ap e.vPath.length cp, .string e.vTag, .string (strT e.vTree), .slice at1 (kidsOf e.vTree).length ct] 36)).alloc (.cells #[.string ⟨#[]⟩, .slice none 0 0] 33)) (w.heap.size + 1) [.int .i64 e.vKind, .slice ap e.vPath.length cp, .string e.vTag, .string (strT e.vTree), .slice at1 (kidsOf e.vTree).length ct] 36) := by
    have q := (Box.new (w.alloc (.cells #[.string (strT d), .slice a0 (kidsOf d).length c0] 33)) [.int .i64 e.vKind, .slice ap e.vPath.length cp, .string e.vTag, .string (strT e.vTree), .slice at1 (kidsOf e.vTree).length ct] 36).alloc (.cells #[.string ⟨#[]⟩, .slice none 0 0] 33)
    simpa only [World.size_alloc, Hid] using q
  have bR0 : Hid (Box (((w.alloc (.cells #[.string (strT d), .slice a0 (kidsOf d).length c0] 33)).alloc (.cells #[.int .i64 e.vKind, .slice ap e.vPath.length cp, .string e.vTag, .string (strT e.vTree), .slice at1 (kidsOf e.vTree).length ct] 36)).alloc (.cells #[.string ⟨#[]⟩, .slice none 0 0] 33)) (w.heap.size + 1 + 1) [.string ⟨#[]⟩, .slice none 0 0] 33) := by
    have q := Box.new ((w.alloc (.cells #[.string (strT d), .slice a0 (kidsOf d).length c0] 33)).alloc (.cells #[.int .i64 e.vKind, .slice ap e.vPath.length cp, .string e.vTag, .string (strT e.vTree), .slice at1 (kidsOf e.vTree).length ct] 36)) [.string ⟨#[]⟩, .slice none 0 0] 33
    simpa only [World.size_alloc, Hid] using q
  go_enter Try.func17, Try.ntmps17
  have p0 := bE0.out.cell 0 rfl
  have p1 := bE0.out.cell 1 rfl
  have p2 := bE0.out.cell 2 rfl
  have p3 := bE0.out.cell 3 rfl
  have p4 := bE0.out.cell 4 rfl
  have t0 := bT0.out.cell 0 rfl
  have t1 := bT0.out.cell 1 rfl
  go_wp2_with fail
  refine (changedTree_any (ht.out _ hB0.out) (he.out _ hB0.out)).mono ?_
  rintro e1 w1 ⟨h1, hb1⟩
  have hB1 : Hid (Below w.heap.size w w1) := hB0.out.trans (hb1.mono hB0.out.size)
  have hB1a : Hid (∀ o, Below w.heap.size w (w1.alloc o)) := fun o => hB1.out.alloc hB1.out.size o
  have bR1 : Hid (Box w1 (w.heap.size + 1 + 1) [.string ⟨#[]⟩, .slice none 0 0] 33) := bR0.out.below hb1 bR0.out.lt
  have s0 : Hid ((((w.alloc (.cells #[.string (strT d), .slice a0 (kidsOf d).length c0] 33)).alloc (.cells #[.int .i64 e.vKind, .slice ap e.vPath.length cp, .string e.vTag, .string (strT e.vTree), .slice at1 (kidsOf e.vTree).length ct] 36)).alloc (.cells #[.string ⟨#[]⟩, .slice none 0 0] 33)).heap.size = w.heap.size + 1 + 1 + 1) := by simp [Hid]
  clear hb1 p0 p1 p2 p3 p4 t0 t1 bE0 bT0 bR0 hB0
  rcases h1 with ⟨y, cs5, fs5, n5, bv, fb, hy, rfl, ho5, nd5, lo5, _, _⟩ | ⟨hno0, rfl⟩
  · obtain ⟨k5, rfl, hs5, _⟩ := ho5.opened
    obtain ⟨a5, c5, rfl⟩ := hs5.form
    have hso : Hid (editedD d e = some y) := hy
    have ho5h : Hid (TreeO n5 w1 [.string (strT y), .slice a5 (kidsOf y).length c5] y fs5) := ho5
    have nd5h : Hid (fs5.Nodup) := nd5
    have lo5h : Hid (∀ b ∈ fs5, w.heap.size + 1 + 1 + 1 ≤ b) := fun b hb => by have h1 := lo5 b hb; have h2 := s0.out; omega
    have hf5 : Hid (∀ b ∈ fs5, b < w1.heap.size) := TreeO_lt _ _ _ _ _ ho5
    clear hy ho5 nd5 lo5 hs5
    have bN : Hid (Box (w1.alloc (.cells #[.string (strT y), .slice a5 (kidsOf y).length c5] 33)) w1.heap.size [.string (strT y), .slice a5 (kidsOf y).length c5] 33) := Box.new w1 _ _
    have bR2 : Hid (Box (w1.alloc (.cells #[.string (strT y), .slice a5 (kidsOf y).length c5] 33)) (w.heap.size + 1 + 1) [.string ⟨#[]⟩, .slice none 0 0] 33) := bR1.out.alloc _
    have n0 := bN.out.cell 0 rfl
    have n1 := bN.out.cell 1 rfl
    have r0 := bR2.out.cell 0 rfl
    have r1 := bR2.out.cell 1 rfl
    have fR := bR2.out.unfrozen
    go_wp2_with fail
    have z1 := Box.set (i := 1) (Box.set (i := 0) bR2.out (.string (strT y))) (.slice a5 (kidsOf y).length c5)
    have z10 := z1.cell 0 rfl
    have z11 := z1.cell 1 rfl
    refine bodyPost_ret (v := .tuple #[.agg #[.string (strT y), .slice a5 (kidsOf y).length c5], .bool true]) (by simp [results, Try.results17, go_sem, z10, z11]) rfl ?_
    rw [hso.out]
    exact ⟨[.string (strT y), .slice a5 (kidsOf y).length c5], fs5, n5, rfl, TreeO_stays n5 w1 _ _ _ _ (fun b q => (putCells_other [.string (strT y), .slice a5 (kidsOf y).length c5] _ (w.heap.size + 1 + 1) 0 b (by have := lo5h.out b q; omega)).trans (((Below.refl w1.heap.size w1).alloc (Nat.le_refl _) _).block b (hf5.out b q))) ho5h.out, nd5h.out, fun b q => by have := lo5h.out b q; omega, putCells_below [.string (strT y), .slice a5 (kidsOf y).length c5] _ _ _ (w.heap.size + 1 + 1) 0 (by omega) (hB1a.out _)⟩
  · have hno : Hid (editedD d e = none) := hno0
    clear hno0
    have bN : Hid (Box (w1.alloc (.cells #[.string ⟨#[]⟩, .slice none 0 0] 33)) w1.heap.size [.string ⟨#[]⟩, .slice none 0 0] 33) := Box.new w1 _ _
    have bR2 : Hid (Box (w1.alloc (.cells #[.string ⟨#[]⟩, .slice none 0 0] 33)) (w.heap.size + 1 + 1) [.string ⟨#[]⟩, .slice none 0 0] 33) := bR1.out.alloc _
    have n0 := bN.out.cell 0 rfl
    have n1 := bN.out.cell 1 rfl
    have r0 := bR2.out.cell 0 rfl
    have r1 := bR2.out.cell 1 rfl
    have fR := bR2.out.unfrozen
    go_wp2_with fail
    have z1 := Box.set (i := 1) (Box.set (i := 0) bR2.out (.string ⟨#[]⟩)) (.slice none 0 0)
    have z10 := z1.cell 0 rfl
    have z11 := z1.cell 1 rfl
    exact bodyPost_ret (v := .tuple #[.agg #[.string ⟨#[]⟩, .slice none 0 0], .bool false]) (by simp [results, Try.results17, go_sem, z10, z11]) rfl (EdR.no hno.out (putCells_below [.string ⟨#[]⟩, .slice none 0 0] _ _ _ (w.heap.size + 1 + 1) 0 (by omega) (hB1a.out _)))
set_option maxRecDepth 100000 in
set_option maxHeartbeats 8000000 in
theorem implEditOk_any {n m : Nat} {w : World} {t k : Value} {cs : List Value} {d : TD} {e : EditD} (ht0 : TreeAt w 0 n t k d) (he0 : EditAt m w 0 cs e) :
    Calls Try.prog 13 #[.agg #[t, k], .agg cs.toArray] w fun e1 w' => e1 = .returned (.bool (editedD d e).isSome) ∧ Below w.heap.size w w' := by
  obtain ⟨rfl, _⟩ := ht0.tag
  obtain ⟨_, a0, c0, rfl⟩ := ht0.form
  obtain ⟨ap, cp, at1, ct, rfl, _, _, _⟩ := he0.form
  have he : Hid (∀ W, Below w.heap.size w W → EditAt m W 0 [.int .i64 e.vKind, .slice ap e.vPath.length cp, .string e.vTag, .string (strT e.vTree), .slice at1 (kidsOf e.vTree).length ct] e) := fun W hb => EditAt.stays _ _ _ _ _ _ (.of_below hb) he0
  have ht : Hid (∀ W, Below w.heap.size w W → TreeAt W 0 n (.string (strT d)) (.slice a0 (kidsOf d).length c0) d) := fun W hb => ht0.below hb
  clear ht0 he0
  have hB0 : Hid (Below w.heap.size w ((w.alloc (.cells #[.string (strT d), .slice a0 (kidsOf d).length c0] 33)).alloc (.cells #[.int .i64 e.vKind, .slice ap e.vPath.length cp, .string e.vTag, .string (strT e.vTree), .slice at1 (kidsOf e.vTree).length ct] 36))) := ((Below.refl _ _).alloc (Nat.le_refl _) _).alloc (by simp) _
  have bT0 : Hid (Box ((w.alloc (.cells #[.string (strT d), .slice a0 (kidsOf d).length c0] 33)).alloc (.cells #[.int .i64 e.vKind, .slice ap e.vPath.length cp, .string e.vTag, .string (strT e.vTree), .slice at1 (kidsOf e.vTree).length ct] 36)) w.heap.size [.string (strT d), .slice a0 (kidsOf d).length c0] 33) := (Box.new w [.string (strT d), .slice a0 (kidsOf d).length c0] 33).alloc _
  have bE0 : Hid (Box ((w.alloc (.cells #[.string (strT d), .slice a0 (kidsOf d).length c0] 33)).alloc (.cells #[.int .i64 e.vKind, .slice ap e.vPath.length cp, .string e.vTag, .string (strT e.vTree), .slice at1 (kidsOf e.vTree).length ct] 36)) (w.heap.size + 1) [.int .i64 e.vKind, .slice ap e.vPath.length cp, .string e.vTag, .string (strT e.vTree), .slice at1 (kidsOf e.vTree).length ct] 36) := by
    have q := Box.new (w.alloc (.cells #[.string (strT d), .slice a0 (kidsOf d).length c0] 33)) [.int .i64 e.vKind, .slice ap e.vPath.length cp, .string e.vTag, .string (strT e.vTree), .slice at1 (kidsOf e.vTree).length ct] 36
    simpa only [World.size_alloc, Hid] using q
  go_enter Try.func13, Try.ntmps13
  have p0 := bE0.out.cell 0 rfl
  have p1 := bE0.out.cell 1 rfl
  have p2 := bE0.out.cell 2 rfl
  have p3 := bE0.out.cell 3 rfl
  have p4 := bE0.out.cell 4 rfl
  have t0 := bT0.out.cell 0 rfl
  have t1 := bT0.out.cell 1 rfl
  go_wp2_with fail
  refine (changedTree_any (ht.out _ hB0.out) (he.out _ hB0.out)).mono ?_
  rintro e1 w1 ⟨h1, hb1⟩
  have hB1 : Hid (Below w.heap.size w w1) := hB0.out.trans (hb1.mono hB0.out.size)
  have hB1a : Hid (∀ o, Below w.heap.size w (w1.alloc o)) := fun o => hB1.out.alloc hB1.out.size o
  clear hb1 p0 p1 p2 p3 p4 t0 t1 bE0 bT0 hB0
  rcases h1 with ⟨y, cs5, fs5, n5, bv, fb, hy, rfl, ho5, _, _, _, _⟩ | ⟨hno0, rfl⟩
  · obtain ⟨k5, rfl, hs5, _⟩ := ho5.opened
    obtain ⟨a5, c5, rfl⟩ := hs5.form
    have hso : Hid (editedD d e = some y) := hy
    clear hy ho5 hs5
    go_wp2_with fail
    go_ret
    exact ⟨by rw [hso.out]; rfl, hB1a.out _⟩
  · have hno : Hid (editedD d e = none) := hno0
    clear hno0
    go_wp2_with fail
    go_ret
    exact ⟨by rw [hno.out]; rfl, hB1a.out _⟩
set_option maxRecDepth 100000 in
set_option maxHeartbeats 8000000 in
theorem specEditOk_any {n m : Nat} {w : World} {t k : Value} {cs : List Value} {d : TD} {e : EditD} (ht0 : TreeAt w 0 n t k d) (he0 : EditAt m w 0 cs e) :
    Calls Try.prog 10 #[.agg #[t, k], .agg cs.toArray] w fun e1 w' => e1 = .returned (.bool (editedD d e).isSome) ∧ Below w.heap.size w w' := by
  obtain ⟨rfl, _⟩ := ht0.tag
  obtain ⟨_, a0, c0, rfl⟩ := ht0.form
  obtain ⟨ap, cp, at1, ct, rfl, _, _, _⟩ := he0.form
  have he : Hid (∀ W, Below w.heap.size w W → EditAt m W 0 [.int .i64 e.vKind, .slice ap e.vPath.length cp, .string e.vTag, .string (strT e.vTree), .slice at1 (kidsOf e.vTree).length ct] e) := fun W hb => EditAt.stays _ _ _ _ _ _ (.of_below hb) he0
  have ht : Hid (∀ W, Below w.heap.size w W → TreeAt W 0 n (.string (strT d)) (.slice a0 (kidsOf d).length c0) d) := fun W hb => ht0.below hb
  clear ht0 he0
  have hB0 : Hid (Below w.heap.size w ((w.alloc (.cells #[.string (strT d), .slice a0 (kidsOf d).length c0] 33)).alloc (.cells #[.int .i64 e.vKind, .slice ap e.vPath.length cp, .string e.vTag, .string (strT e.vTree), .slice at1 (kidsOf e.vTree).length ct] 36))) := ((Below.refl _ _).alloc (Nat.le_refl _) _).alloc (by simp) _
  have bT0 : Hid (Box ((w.alloc (.cells #[.string (strT d), .slice a0 (kidsOf d).length c0] 33)).alloc (.cells #[.int .i64 e.vKind, .slice ap e.vPath.length cp, .string e.vTag, .string (strT e.vTree), .slice at1 (kidsOf e.vTree).length ct] 36)) w.heap.size [.string (strT d), .slice a0 (kidsOf d).length c0] 33) := (Box.new w [.string (strT d), .slice a0 (kidsOf d).length c0] 33).alloc _
  have bE0 : Hid (Box ((w.alloc (.cells #[.string (strT d), .slice a0 (kidsOf d).length c0] 33)).alloc (.cells #[.int .i64 e.vKind, .slice ap e.vPath.length cp, .string e.vTag, .string (strT e.vTree), .slice at1 (kidsOf e.vTree).length ct] 36)) (w.heap.size + 1) [.int .i64 e.vKind, .slice ap e.vPath.length cp, .string e.vTag, .string (strT e.vTree), .slice at1 (kidsOf e.vTree).length ct] 36) := by
    have q := Box.new (w.alloc (.cells #[.string (strT d), .slice a0 (kidsOf d).length c0] 33)) [.int .i64 e.vKind, .slice ap e.vPath.length cp, .string e.vTag, .string (strT e.vTree), .slice at1 (kidsOf e.vTree).length ct] 36
    simpa only [World.size_alloc, Hid] using q
  go_enter Try.func10, Try.ntmps10
  have p0 := bE0.out.cell 0 rfl
  have p1 := bE0.out.cell 1 rfl
  have p2 := bE0.out.cell 2 rfl
  have p3 := bE0.out.cell 3 rfl
  have p4 := bE0.out.cell 4 rfl
  have t0 := bT0.out.cell 0 rfl
  have t1 := bT0.out.cell 1 rfl
  go_wp2_with fail
  refine (specEdited_any (ht.out _ hB0.out) (he.out _ hB0.out)).mono ?_
  rintro e1 w1 ⟨cs5, fs5, n5, rfl, ho5, _, _, hb1⟩
  have hB1 : Hid (Below w.heap.size w w1) := hB0.out.trans (hb1.mono hB0.out.size)
  have hB1a : Hid (∀ o, Below w.heap.size w (w1.alloc o)) := fun o => hB1.out.alloc hB1.out.size o
  obtain ⟨k5, rfl, hs5, _⟩ := ho5.opened
  obtain ⟨a5, c5, rfl⟩ := hs5.form
  clear hb1 p0 p1 p2 p3 p4 t0 t1 bE0 bT0 hB0 ho5 hs5
  go_wp2_with fail
  go_ret
  exact ⟨rfl, hB1a.out _⟩
end Go.Proofs.Ytfncmndgdomjiaa
