/- An edit in memory, as the laws measure, copy, compare and mark it. -/
import Derived.Test.YtfncmndgdomjiaaEdRec
import Derived.Test.YtfncmndgdomjiaaToOwn
import Derived.Test.YtfncmndgdomjiaaTreeSz
import Derived.Test.YtfncmndgdomjiaaTreeTo
import Derived.Test.YtfncmndgdomjiaaTreeMarks
import Derived.Test.YtfncmndgdomjiaaTreeEq
namespace Go.Proofs.Ytfncmndgdomjiaa
open Go.RowKit
/-- an edit lies in memory -/
def EditL (n : Nat) (w : World) (lo : Nat) (cs : List Value) (x : EditD) : Prop :=
  ∃ (kp kk : Value), cs = [.int .i64 x.vKind, kp, .string x.vTag, .string (strT x.vTree), kk] ∧ InI x.vKind ∧ SeqAt 1 IntAt w lo kp x.vPath ∧ x.vTag.size ≤ maxLen ∧ TreeL n w lo [.string (strT x.vTree), kk] x.vTree
/-- an edit owns its memory: these blocks -/
def EditO (n : Nat) (w : World) (cs : List Value) (x : EditD) (fs : List Nat) : Prop :=
  ∃ (kp kk : Value) (fp ft : List Nat), cs = [.int .i64 x.vKind, kp, .string x.vTag, .string (strT x.vTree), kk] ∧ InI x.vKind ∧ SeqOwn 1 IntOwn w kp x.vPath fp ∧ x.vTag.size ≤ maxLen ∧ TreeO n w [.string (strT x.vTree), kk] x.vTree ft ∧ fs = fp ++ ft ∧ fs.Nodup
theorem EditL_stays (n : Nat) : Stays (EditL n) := by
  intro w w' lo lo' cs x q h
  obtain ⟨kp, kk, e, h1, h2, h3, h4⟩ := h
  exact ⟨kp, kk, e, h1, h2.keep intAt_stays q, h3, TreeL_stays n _ _ _ _ _ _ q h4⟩
theorem EditL.below {n : Nat} {w w' : World} {lo : Nat} {cs : List Value} {x : EditD} (h : EditL n w lo cs x) (hb : Below w.heap.size w w') : EditL n w' lo cs x := EditL_stays n _ _ _ lo _ _ (.of_below hb) h
theorem EditO_stays (n : Nat) : OwnStays (EditO n) := by
  intro w w' cs x fs q h
  obtain ⟨kp, kk, fp, ft, e, h1, h2, h3, h4, rfl, h5⟩ := h
  exact ⟨kp, kk, fp, ft, e, h1, h2.stays intOwn_stays (fun b hb => q b (List.mem_append.2 (Or.inl hb))), h3, TreeO_stays n _ _ _ _ _ (fun b hb => q b (List.mem_append.2 (Or.inr hb))) h4, rfl, h5⟩
theorem EditO_lt (n : Nat) : OwnLt (EditO n) := by
  intro w cs x fs h b hb
  obtain ⟨kp, kk, fp, ft, e, h1, h2, h3, h4, rfl, h5⟩ := h
  rcases List.mem_append.1 hb with q | q
  · exact h2.lt intOwn_lt b q
  · exact TreeO_lt n _ _ _ _ h4 b q
theorem EditO_at {lo n : Nat} {w : World} {cs : List Value} {x : EditD} {fs : List Nat} (h : EditO n w cs x fs) (hlo : ∀ b ∈ fs, lo ≤ b) : EditL n w lo cs x := by
  obtain ⟨kp, kk, fp, ft, e, h1, h2, h3, h4, rfl, h5⟩ := h
  exact ⟨kp, kk, e, h1, h2.at intOwn_at (fun b hb => hlo b (List.mem_append.2 (Or.inl hb))), h3, TreeO_at n _ _ _ _ h4 (fun b hb => hlo b (List.mem_append.2 (Or.inr hb)))⟩
theorem EditO_nodup {n : Nat} {w : World} {cs : List Value} {x : EditD} {fs : List Nat} (h : EditO n w cs x fs) : fs.Nodup := by
  obtain ⟨_, _, _, _, _, _, _, _, _, _, h5⟩ := h; exact h5
theorem EditO_mono {n m : Nat} (hnm : n ≤ m) {w : World} {cs : List Value} {x : EditD} {fs : List Nat} (h : EditO n w cs x fs) : EditO m w cs x fs := by
  obtain ⟨kp, kk, fp, ft, e, h1, h2, h3, h4, h5⟩ := h
  exact ⟨kp, kk, fp, ft, e, h1, h2, h3, TreeO_mono hnm h4, h5⟩
theorem EditL.form {n : Nat} {w : World} {lo : Nat} {cs : List Value} {x : EditD} (h : EditL n w lo cs x) : ∃ ap cp a c, cs = [.int .i64 x.vKind, .slice ap x.vPath.length cp, .string x.vTag, .string (strT x.vTree), .slice a (kidsOf x.vTree).length c] ∧ SeqAt 1 IntAt w lo (.slice ap x.vPath.length cp) x.vPath ∧ x.vTag.size ≤ maxLen ∧ TreeL n w lo [.string (strT x.vTree), .slice a (kidsOf x.vTree).length c] x.vTree := by
  obtain ⟨kp, kk, rfl, h1, h2, h3, h4⟩ := h
  obtain ⟨ap, cp, rfl⟩ := h2.form
  obtain ⟨k1, e1, hs, _⟩ := h4.opened
  obtain ⟨a, c, rfl⟩ := hs.form
  simp only [List.cons.injEq, and_true, true_and] at e1
  subst e1
  exact ⟨ap, cp, a, c, rfl, h2, h3, h4⟩
theorem EditL.at {n : Nat} {w : World} {lo : Nat} {cs : List Value} {x : EditD} (h : EditL n w lo cs x) : EditAt n w lo cs x := by
  obtain ⟨kp, kk, rfl, h1, h2, h3, h4⟩ := h
  exact ⟨kp, _, kk, rfl, h1, h2, h3, TreeL.at n _ _ _ h4⟩
set_option maxRecDepth 100000 in
set_option maxHeartbeats 4000000 in
theorem szEdit_any {n : Nat} {w : World} {lo : Nat} {cs : List Value} {x : EditD} {left : Int} (hx : EditL n w lo cs x) (h0 : 0 ≤ left) (h1 : left ≤ 1048576) :
    Calls Try.prog 9 #[.agg cs.toArray, .int .i64 left] w fun e w' => (∃ r : Int, e = .returned (.int .i64 r) ∧ r ≤ left ∧ -1 ≤ r ∧ (r < 0 ∨ (x.vPath.length ≤ 1048576 ∧ SmallO n x.vTree ∧ (belowN n x.vTree : Int) ≤ 1048576))) ∧ Below w.heap.size w w' := by
  obtain ⟨ap, cp, a, c, rfl, hp0, htg, ht0⟩ := hx.form
  unfold maxLen at htg
  have hp : Hid (SeqAt 1 IntAt w lo (.slice ap x.vPath.length cp) x.vPath) := hp0
  have ht : Hid (TreeL n w lo [.string (strT x.vTree), .slice a (kidsOf x.vTree).length c] x.vTree) := ht0
  clear hx hp0 ht0
  have hb0 : Hid (Below w.heap.size w (w.alloc (.cells #[.int .i64 x.vKind, .slice ap x.vPath.length cp, .string x.vTag, .string (strT x.vTree), .slice a (kidsOf x.vTree).length c] 27))) := (Below.refl _ _).alloc (Nat.le_refl _) _
  have bx : Hid (Box (w.alloc (.cells #[.int .i64 x.vKind, .slice ap x.vPath.length cp, .string x.vTag, .string (strT x.vTree), .slice a (kidsOf x.vTree).length c] 27)) w.heap.size [.int .i64 x.vKind, .slice ap x.vPath.length cp, .string x.vTag, .string (strT x.vTree), .slice a (kidsOf x.vTree).length c] 27) := Box.new w _ _
  have c0 := bx.out.cell 0 rfl
  have c1 := bx.out.cell 1 rfl
  have c2 := bx.out.cell 2 rfl
  have c3 := bx.out.cell 3 rfl
  have c4 := bx.out.cell 4 rfl
  go_enter Try.func9, Try.ntmps9
  go_wp2_with fail
  refine (szInt64S_any (hp.out.below intAt_stays hb0.out) h0 h1).mono ?_
  rintro e w1 ⟨⟨r, rfl, hr1, hr2, hs0⟩, hb1⟩
  have hs1 : Hid (r < 0 ∨ x.vPath.length ≤ 1048576) := hs0
  have hB1 : Hid (Below w.heap.size w w1) := hb0.out.trans (hb1.mono hb0.out.size)
  have b1 : Hid (Box w1 w.heap.size [.int .i64 x.vKind, .slice ap x.vPath.length cp, .string x.vTag, .string (strT x.vTree), .slice a (kidsOf x.vTree).length c] 27) := bx.out.below hb1 bx.out.lt
  clear hb1 hs0 bx c0 c1 c2 c3 c4
  have c0 := b1.out.cell 0 rfl
  have c1 := b1.out.cell 1 rfl
  have c2 := b1.out.cell 2 rfl
  have c3 := b1.out.cell 3 rfl
  have c4 := b1.out.cell 4 rfl
  by_cases hn : r < 0
  · go_wp2_with fail
    go_ret
    exact ⟨⟨-1, rfl, by omega, by omega, Or.inl (by omega)⟩, hB1.out⟩
  by_cases hn2 : r - (x.vTag.size : Int) < 0
  · go_wp2_with fail
    go_ret
    exact ⟨⟨-1, rfl, by omega, by omega, Or.inl (by omega)⟩, hB1.out⟩
  go_wp2_with fail
  refine ((szT_all n).1 _ lo _ x.vTree _ (ht.out.below hB1.out) (by omega) (by omega)).mono ?_
  rintro e w2 ⟨⟨r2, rfl, hr3, hr4, hs0⟩, hb2⟩
  have hs2 : Hid (r2 < 0 ∨ (SmallO n x.vTree ∧ r2 + (belowN n x.vTree : Int) ≤ r - (x.vTag.size : Int))) := hs0
  have hB2 : Hid (Below w.heap.size w w2) := hB1.out.trans (hb2.mono hB1.out.size)
  clear hb2 hs0
  by_cases hn3 : r2 < 0
  · go_wp2_with fail
    go_ret
    exact ⟨⟨-1, rfl, by omega, by omega, Or.inl (by omega)⟩, hB2.out⟩
  · go_wp2_with fail
    go_ret
    refine ⟨⟨r2, rfl, by omega, by omega, Or.inr ⟨hs1.out.resolve_left (by omega), (hs2.out.resolve_left (by omega)).1, ?_⟩⟩, hB2.out⟩
    have q := (hs2.out.resolve_left (by omega)).2
    omega
set_option maxRecDepth 100000 in
set_option maxHeartbeats 4000000 in
theorem toEdit_own {n : Nat} {w : World} {lo : Nat} {cs : List Value} {x : EditD} (hx : EditL n w lo cs x) (hpl : x.vPath.length ≤ 1048576) (hsm : SmallO n x.vTree) :
    Calls Try.prog 12 #[.agg cs.toArray] w fun e w' => (∃ (cs' : List Value) (fs : List Nat), e = .returned (.agg cs'.toArray) ∧ EditO n w' cs' x fs ∧ ∀ b ∈ fs, w.heap.size ≤ b) ∧ Below w.heap.size w w' := by
  have hki : Hid (InI x.vKind) := by obtain ⟨_, _, _, q, _⟩ := hx; exact q
  obtain ⟨ap, cp, a, c, rfl, hp0, htg0, ht0⟩ := hx.form
  have htg : Hid (x.vTag.size ≤ maxLen) := htg0
  have hp : Hid (SeqAt 1 IntAt w lo (.slice ap x.vPath.length cp) x.vPath) := hp0
  have ht : Hid (TreeL n w lo [.string (strT x.vTree), .slice a (kidsOf x.vTree).length c] x.vTree) := ht0
  have hs : Hid (SmallO n x.vTree) := hsm
  clear hx hp0 ht0 hsm htg0
  have hB0 : Hid (Below w.heap.size w ((((w.alloc (.cells #[.int .i64 x.vKind, .slice ap x.vPath.length cp, .string x.vTag, .string (strT x.vTree), .slice a (kidsOf x.vTree).length c] 27))).alloc (.cells #[.int .i64 0, .slice none 0 0, .string ⟨#[]⟩, .string ⟨#[]⟩, .slice none 0 0] 36)).alloc (.cells #[.int .i64 x.vKind, .slice none 0 0, .string ⟨#[]⟩, .string ⟨#[]⟩, .slice none 0 0] 36))) := (((Below.refl _ _).alloc (Nat.le_refl _) _).alloc (by simp) _).alloc (by simp; omega) _
  have bA0 : Hid (Box ((((w.alloc (.cells #[.int .i64 x.vKind, .slice ap x.vPath.length cp, .string x.vTag, .string (strT x.vTree), .slice a (kidsOf x.vTree).length c] 27))).alloc (.cells #[.int .i64 0, .slice none 0 0, .string ⟨#[]⟩, .string ⟨#[]⟩, .slice none 0 0] 36)).alloc (.cells #[.int .i64 x.vKind, .slice none 0 0, .string ⟨#[]⟩, .string ⟨#[]⟩, .slice none 0 0] 36)) w.heap.size [.int .i64 x.vKind, .slice ap x.vPath.length cp, .string x.vTag, .string (strT x.vTree), .slice a (kidsOf x.vTree).length c] 27) := ((Box.new w [.int .i64 x.vKind, .slice ap x.vPath.length cp, .string x.vTag, .string (strT x.vTree), .slice a (kidsOf x.vTree).length c] 27).alloc _).alloc _
  have bR0 : Hid (Box ((((w.alloc (.cells #[.int .i64 x.vKind, .slice ap x.vPath.length cp, .string x.vTag, .string (strT x.vTree), .slice a (kidsOf x.vTree).length c] 27))).alloc (.cells #[.int .i64 0, .slice none 0 0, .string ⟨#[]⟩, .string ⟨#[]⟩, .slice none 0 0] 36)).alloc (.cells #[.int .i64 x.vKind, .slice none 0 0, .string ⟨#[]⟩, .string ⟨#[]⟩, .slice none 0 0] 36)) (w.heap.size + 1) [.int .i64 0, .slice none 0 0, .string ⟨#[]⟩, .string ⟨#[]⟩, .slice none 0 0] 36) := by
    have q := (Box.new (w.alloc (.cells #[.int .i64 x.vKind, .slice ap x.vPath.length cp, .string x.vTag, .string (strT x.vTree), .slice a (kidsOf x.vTree).length c] 27)) [.int .i64 0, .slice none 0 0, .string ⟨#[]⟩, .string ⟨#[]⟩, .slice none 0 0] 36).alloc (.cells #[.int .i64 x.vKind, .slice none 0 0, .string ⟨#[]⟩, .string ⟨#[]⟩, .slice none 0 0] 36)
    simpa only [World.size_alloc, Hid] using q
  have bO0 : Hid (Box ((((w.alloc (.cells #[.int .i64 x.vKind, .slice ap x.vPath.length cp, .string x.vTag, .string (strT x.vTree), .slice a (kidsOf x.vTree).length c] 27))).alloc (.cells #[.int .i64 0, .slice none 0 0, .string ⟨#[]⟩, .string ⟨#[]⟩, .slice none 0 0] 36)).alloc (.cells #[.int .i64 x.vKind, .slice none 0 0, .string ⟨#[]⟩, .string ⟨#[]⟩, .slice none 0 0] 36)) (w.heap.size + 1 + 1) [.int .i64 x.vKind, .slice none 0 0, .string ⟨#[]⟩, .string ⟨#[]⟩, .slice none 0 0] 36) := by
    have q := Box.new ((w.alloc (.cells #[.int .i64 x.vKind, .slice ap x.vPath.length cp, .string x.vTag, .string (strT x.vTree), .slice a (kidsOf x.vTree).length c] 27)).alloc (.cells #[.int .i64 0, .slice none 0 0, .string ⟨#[]⟩, .string ⟨#[]⟩, .slice none 0 0] 36)) [.int .i64 x.vKind, .slice none 0 0, .string ⟨#[]⟩, .string ⟨#[]⟩, .slice none 0 0] 36
    simpa only [World.size_alloc, Hid] using q
  have c0 := bA0.out.cell 0 rfl
  have c1 := bA0.out.cell 1 rfl
  have c2 := bA0.out.cell 2 rfl
  have c3 := bA0.out.cell 3 rfl
  have c4 := bA0.out.cell 4 rfl
  go_enter Try.func12, Try.ntmps12
  go_wp2_with fail
  refine (toInt64S_own (hp.out.below intAt_stays hB0.out) hpl).mono ?_
  rintro e w1 ⟨⟨kp2, fp, rfl, hp1, _, lo1⟩, hb1⟩
  obtain ⟨ap2, cp2, rfl⟩ := hp1.form
  have hB1 : Hid (Below w.heap.size w w1) := hB0.out.trans (hb1.mono hB0.out.size)
  have bA1 : Hid (Box w1 w.heap.size [.int .i64 x.vKind, .slice ap x.vPath.length cp, .string x.vTag, .string (strT x.vTree), .slice a (kidsOf x.vTree).length c] 27) := bA0.out.below hb1 bA0.out.lt
  have bR1 : Hid (Box w1 (w.heap.size + 1) [.int .i64 0, .slice none 0 0, .string ⟨#[]⟩, .string ⟨#[]⟩, .slice none 0 0] 36) := bR0.out.below hb1 bR0.out.lt
  have bO1 : Hid (Box w1 (w.heap.size + 1 + 1) [.int .i64 x.vKind, .slice none 0 0, .string ⟨#[]⟩, .string ⟨#[]⟩, .slice none 0 0] 36) := bO0.out.below hb1 bO0.out.lt
  have hp1h : Hid (SeqOwn 1 IntOwn w1 (.slice ap2 x.vPath.length cp2) x.vPath fp) := hp1
  have lo1h : Hid (∀ b ∈ fp, w.heap.size + 3 ≤ b) := fun b hb => by have := lo1 b hb; simp only [World.size_alloc] at this; omega
  clear hb1 hp1 lo1 c0 c1 c2 c3 c4 bA0 bR0 bO0 hB0
  have bO2 : Hid (Box ((w1.setCell ⟨w.heap.size + 1 + 1, 1, none⟩ (.slice ap2 x.vPath.length cp2)).setCell ⟨w.heap.size + 1 + 1, 2, none⟩ (.string x.vTag)) (w.heap.size + 1 + 1) [.int .i64 x.vKind, .slice ap2 x.vPath.length cp2, .string x.vTag, .string ⟨#[]⟩, .slice none 0 0] 36) := (bO1.out.set (i := 1) _).set (i := 2) _
  have bA2 : Hid (Box ((w1.setCell ⟨w.heap.size + 1 + 1, 1, none⟩ (.slice ap2 x.vPath.length cp2)).setCell ⟨w.heap.size + 1 + 1, 2, none⟩ (.string x.vTag)) w.heap.size [.int .i64 x.vKind, .slice ap x.vPath.length cp, .string x.vTag, .string (strT x.vTree), .slice a (kidsOf x.vTree).length c] 27) := (bA1.out.other (by omega) _).other (by omega) _
  have bR2 : Hid (Box ((w1.setCell ⟨w.heap.size + 1 + 1, 1, none⟩ (.slice ap2 x.vPath.length cp2)).setCell ⟨w.heap.size + 1 + 1, 2, none⟩ (.string x.vTag)) (w.heap.size + 1) [.int .i64 0, .slice none 0 0, .string ⟨#[]⟩, .string ⟨#[]⟩, .slice none 0 0] 36) := (bR1.out.other (by omega) _).other (by omega) _
  have hB2 : Hid (Below w.heap.size w ((w1.setCell ⟨w.heap.size + 1 + 1, 1, none⟩ (.slice ap2 x.vPath.length cp2)).setCell ⟨w.heap.size + 1 + 1, 2, none⟩ (.string x.vTag))) := (hB1.out.setCell (p := ⟨w.heap.size + 1 + 1, 1, none⟩) (by show _ ≤ w.heap.size + 1 + 1; omega) _).setCell (p := ⟨w.heap.size + 1 + 1, 2, none⟩) (by show _ ≤ w.heap.size + 1 + 1; omega) _
  have hp2h : Hid (SeqOwn 1 IntOwn ((w1.setCell ⟨w.heap.size + 1 + 1, 1, none⟩ (.slice ap2 x.vPath.length cp2)).setCell ⟨w.heap.size + 1 + 1, 2, none⟩ (.string x.vTag)) (.slice ap2 x.vPath.length cp2) x.vPath fp) := SeqOwn.stays intOwn_stays hp1h.out (fun b hb => (set_other (by have := lo1h.out b hb; omega) _).trans (set_other (by have := lo1h.out b hb; omega) _))
  have o0 := bO1.out.cell 1 rfl
  have o1 := bO1.out.cell 2 rfl
  have fO := bO1.out.unfrozen
  have c2 := ((bA1.out.other (g' := w.heap.size + 1 + 1) (i := 1) (by omega) (.slice ap2 x.vPath.length cp2))).cell 2 rfl
  have o2 := (bO1.out.set (i := 1) (.slice ap2 x.vPath.length cp2)).cell 2 rfl
  have c3 := bA2.out.cell 3 rfl
  have c4 := bA2.out.cell 4 rfl
  go_wp2_with fail
  refine ((toT_all n).1 _ lo _ x.vTree (ht.out.below hB2.out) hs.out).mono ?_
  rintro e w3 ⟨⟨cs3, ft, rfl, ht3, nd3, lo3⟩, hb3⟩
  obtain ⟨k3, rfl, hs3, _⟩ := ht3.opened
  obtain ⟨a2, c5, rfl⟩ := hs3.form
  have hB3 : Hid (Below w.heap.size w w3) := hB2.out.trans (hb3.mono hB2.out.size)
  have bR3 : Hid (Box w3 (w.heap.size + 1) [.int .i64 0, .slice none 0 0, .string ⟨#[]⟩, .string ⟨#[]⟩, .slice none 0 0] 36) := bR2.out.below hb3 bR2.out.lt
  have bO3 : Hid (Box w3 (w.heap.size + 1 + 1) [.int .i64 x.vKind, .slice ap2 x.vPath.length cp2, .string x.vTag, .string ⟨#[]⟩, .slice none 0 0] 36) := bO2.out.below hb3 bO2.out.lt
  have hp3h : Hid (SeqOwn 1 IntOwn w3 (.slice ap2 x.vPath.length cp2) x.vPath fp) := SeqOwn.stays intOwn_stays hp2h.out (fun b hb => hb3.block b (hp2h.out.lt intOwn_lt b hb))
  have ht3h : Hid (TreeO n w3 [.string (strT x.vTree), .slice a2 (kidsOf x.vTree).length c5] x.vTree ft) := ht3
  have nd3h : Hid (ft.Nodup) := nd3
  have lo3h : Hid (∀ b ∈ ft, ((w1.setCell ⟨w.heap.size + 1 + 1, 1, none⟩ (.slice ap2 x.vPath.length cp2)).setCell ⟨w.heap.size + 1 + 1, 2, none⟩ (.string x.vTag)).heap.size ≤ b) := lo3
  have hfp2 : Hid (∀ b ∈ fp, b < ((w1.setCell ⟨w.heap.size + 1 + 1, 1, none⟩ (.slice ap2 x.vPath.length cp2)).setCell ⟨w.heap.size + 1 + 1, 2, none⟩ (.string x.vTag)).heap.size) := hp2h.out.lt intOwn_lt
  have szV : Hid (w.heap.size + 3 ≤ ((w1.setCell ⟨w.heap.size + 1 + 1, 1, none⟩ (.slice ap2 x.vPath.length cp2)).setCell ⟨w.heap.size + 1 + 1, 2, none⟩ (.string x.vTag)).heap.size) := bO2.out.lt
  clear hb3 ht3 nd3 lo3 hs3 o0 o1 o2 c2 c3 c4 fO bA1 bR1 bO1 bA2 bR2 hp1h
  have bO4 : Hid (Box ((w3.setCell ⟨w.heap.size + 1 + 1, 3, none⟩ (.string (strT x.vTree))).setCell ⟨w.heap.size + 1 + 1, 4, none⟩ (.slice a2 (kidsOf x.vTree).length c5)) (w.heap.size + 1 + 1) [.int .i64 x.vKind, .slice ap2 x.vPath.length cp2, .string x.vTag, .string (strT x.vTree), .slice a2 (kidsOf x.vTree).length c5] 36) := (bO3.out.set (i := 3) _).set (i := 4) _
  have bR4 : Hid (Box ((w3.setCell ⟨w.heap.size + 1 + 1, 3, none⟩ (.string (strT x.vTree))).setCell ⟨w.heap.size + 1 + 1, 4, none⟩ (.slice a2 (kidsOf x.vTree).length c5)) (w.heap.size + 1) [.int .i64 0, .slice none 0 0, .string ⟨#[]⟩, .string ⟨#[]⟩, .slice none 0 0] 36) := (bR3.out.other (by omega) _).other (by omega) _
  have hB4 : Hid (Below w.heap.size w ((w3.setCell ⟨w.heap.size + 1 + 1, 3, none⟩ (.string (strT x.vTree))).setCell ⟨w.heap.size + 1 + 1, 4, none⟩ (.slice a2 (kidsOf x.vTree).length c5))) := (hB3.out.setCell (p := ⟨w.heap.size + 1 + 1, 3, none⟩) (by show _ ≤ w.heap.size + 1 + 1; omega) _).setCell (p := ⟨w.heap.size + 1 + 1, 4, none⟩) (by show _ ≤ w.heap.size + 1 + 1; omega) _
  have o3 := bO3.out.cell 3 rfl
  have o4 := bO3.out.cell 4 rfl
  have fO := bO3.out.unfrozen
  have p0 := bO4.out.cell 0 rfl
  have p1 := bO4.out.cell 1 rfl
  have p2 := bO4.out.cell 2 rfl
  have p3 := bO4.out.cell 3 rfl
  have p4 := bO4.out.cell 4 rfl
  have r0 := bR4.out.cell 0 rfl
  have r1 := bR4.out.cell 1 rfl
  have r2 := bR4.out.cell 2 rfl
  have r3 := bR4.out.cell 3 rfl
  have r4 := bR4.out.cell 4 rfl
  have fR := bR4.out.unfrozen
  go_wp2_with fail
  have z := ((((bR4.out.set (i := 0) (.int .i64 x.vKind)).set (i := 1) (.slice ap2 x.vPath.length cp2)).set (i := 2) (.string x.vTag)).set (i := 3) (.string (strT x.vTree))).set (i := 4) (.slice a2 (kidsOf x.vTree).length c5)
  have z0 := z.cell 0 rfl
  have z1 := z.cell 1 rfl
  have z2 := z.cell 2 rfl
  have z3 := z.cell 3 rfl
  have z4 := z.cell 4 rfl
  refine bodyPost_ret (v := .agg #[.int .i64 x.vKind, .slice ap2 x.vPath.length cp2, .string x.vTag, .string (strT x.vTree), .slice a2 (kidsOf x.vTree).length c5]) (by simp [results, Try.results12, go_sem, z0, z1, z2, z3, z4]) rfl ?_
  have hk1 : ∀ b, w.heap.size + 3 ≤ b → (putCells ((w3.setCell ⟨w.heap.size + 1 + 1, 3, none⟩ (.string (strT x.vTree))).setCell ⟨w.heap.size + 1 + 1, 4, none⟩ (.slice a2 (kidsOf x.vTree).length c5)) (w.heap.size + 1) 0 [.int .i64 x.vKind, .slice ap2 x.vPath.length cp2, .string x.vTag, .string (strT x.vTree), .slice a2 (kidsOf x.vTree).length c5]).heap[b]? = w3.heap[b]? := fun b hb => (putCells_other [.int .i64 x.vKind, .slice ap2 x.vPath.length cp2, .string x.vTag, .string (strT x.vTree), .slice a2 (kidsOf x.vTree).length c5] _ (w.heap.size + 1) 0 b (by omega)).trans ((set_other (by omega) _).trans (set_other (by omega) _))
  refine ⟨⟨[.int .i64 x.vKind, .slice ap2 x.vPath.length cp2, .string x.vTag, .string (strT x.vTree), .slice a2 (kidsOf x.vTree).length c5], fp ++ ft, rfl, ⟨_, _, fp, ft, rfl, hki.out, SeqOwn.stays intOwn_stays hp3h.out (fun b hb => hk1 b (lo1h.out b hb)), htg.out, TreeO_stays n _ _ _ _ _ (fun b hb => hk1 b (by have h1 := lo3h.out b hb; have h2 := szV.out; omega)) ht3h.out, rfl, ?_⟩, fun b hb => ?_⟩, putCells_below [.int .i64 x.vKind, .slice ap2 x.vPath.length cp2, .string x.vTag, .string (strT x.vTree), .slice a2 (kidsOf x.vTree).length c5] _ _ _ (w.heap.size + 1) 0 (by omega) hB4.out⟩
  · exact List.nodup_append.2 ⟨hp3h.out.nodup, nd3h.out, fun b hb b2 hb2 e => by have h1 := hfp2.out b hb; have h2 := lo3h.out b2 hb2; omega⟩
  · rcases List.mem_append.1 hb with q | q
    · have := lo1h.out b q; omega
    · have h1 := lo3h.out b q; have h2 := szV.out; omega
theorem TreeL.mono {n m : Nat} (h : n ≤ m) {w : World} {lo : Nat} {cs : List Value} {x : TD} (q : TreeL n w lo cs x) : TreeL m w lo cs x := by
  induction h with
  | refl => exact q
  | step _ ih => exact TreeL.more _ _ _ ih
theorem eqTree_two {n m : Nat} {w : World} {lo lo2 : Nat} {cs cs2 : List Value} {x : TD} (h : TreeL n w lo cs x) (h2 : TreeL m w lo2 cs2 x) :
    Calls Try.prog 14 #[.agg cs.toArray, .agg cs2.toArray] w fun e w' => e = .returned (.bool true) ∧ Below w.heap.size w w' := eqTree_any (TreeL.mono (n := n) (m := n + m) (by omega) h) (TreeL.mono (n := m) (m := n + m) (by omega) h2)
set_option maxRecDepth 100000 in
set_option maxHeartbeats 4000000 in
theorem eqEdit_any {n m : Nat} {w : World} {lo lo2 : Nat} {cs cs2 : List Value} {x : EditD} (h : EditL n w lo cs x) (h2 : EditL m w lo2 cs2 x) :
    Calls Try.prog 15 #[.agg cs.toArray, .agg cs2.toArray] w fun e w' => e = .returned (.bool true) ∧ Below w.heap.size w w' := by
  obtain ⟨ap, cp, a, c, rfl, hp0, _, ht0⟩ := h.form
  obtain ⟨ap2, cp2, a2, c2, rfl, hp20, _, ht20⟩ := h2.form
  have hp : Hid (SeqAt 1 IntAt w lo (.slice ap x.vPath.length cp) x.vPath) := hp0
  have hp2 : Hid (SeqAt 1 IntAt w lo2 (.slice ap2 x.vPath.length cp2) x.vPath) := hp20
  have ht : Hid (TreeL n w lo [.string (strT x.vTree), .slice a (kidsOf x.vTree).length c] x.vTree) := ht0
  have ht2 : Hid (TreeL m w lo2 [.string (strT x.vTree), .slice a2 (kidsOf x.vTree).length c2] x.vTree) := ht20
  clear h h2 hp0 hp20 ht0 ht20
  have hB0 : Hid (Below w.heap.size w ((w.alloc (.cells #[.int .i64 x.vKind, .slice ap x.vPath.length cp, .string x.vTag, .string (strT x.vTree), .slice a (kidsOf x.vTree).length c] 36)).alloc (.cells #[.int .i64 x.vKind, .slice ap2 x.vPath.length cp2, .string x.vTag, .string (strT x.vTree), .slice a2 (kidsOf x.vTree).length c2] 36))) := ((Below.refl _ _).alloc (Nat.le_refl _) _).alloc (by simp) _
  have bA0 : Hid (Box ((w.alloc (.cells #[.int .i64 x.vKind, .slice ap x.vPath.length cp, .string x.vTag, .string (strT x.vTree), .slice a (kidsOf x.vTree).length c] 36)).alloc (.cells #[.int .i64 x.vKind, .slice ap2 x.vPath.length cp2, .string x.vTag, .string (strT x.vTree), .slice a2 (kidsOf x.vTree).length c2] 36)) w.heap.size [.int .i64 x.vKind, .slice ap x.vPath.length cp, .string x.vTag, .string (strT x.vTree), .slice a (kidsOf x.vTree).length c] 36) := (Box.new w [.int .i64 x.vKind, .slice ap x.vPath.length cp, .string x.vTag, .string (strT x.vTree), .slice a (kidsOf x.vTree).length c] 36).alloc _
  have bC0 : Hid (Box ((w.alloc (.cells #[.int .i64 x.vKind, .slice ap x.vPath.length cp, .string x.vTag, .string (strT x.vTree), .slice a (kidsOf x.vTree).length c] 36)).alloc (.cells #[.int .i64 x.vKind, .slice ap2 x.vPath.length cp2, .string x.vTag, .string (strT x.vTree), .slice a2 (kidsOf x.vTree).length c2] 36)) (w.heap.size + 1) [.int .i64 x.vKind, .slice ap2 x.vPath.length cp2, .string x.vTag, .string (strT x.vTree), .slice a2 (kidsOf x.vTree).length c2] 36) := by
    have q := Box.new (w.alloc (.cells #[.int .i64 x.vKind, .slice ap x.vPath.length cp, .string x.vTag, .string (strT x.vTree), .slice a (kidsOf x.vTree).length c] 36)) [.int .i64 x.vKind, .slice ap2 x.vPath.length cp2, .string x.vTag, .string (strT x.vTree), .slice a2 (kidsOf x.vTree).length c2] 36
    simpa only [World.size_alloc, Hid] using q
  have p0 := bA0.out.cell 0 rfl
  have p1 := bA0.out.cell 1 rfl
  have p2 := bA0.out.cell 2 rfl
  have p3 := bA0.out.cell 3 rfl
  have p4 := bA0.out.cell 4 rfl
  have r0 := bC0.out.cell 0 rfl
  have r1 := bC0.out.cell 1 rfl
  have r2 := bC0.out.cell 2 rfl
  have r3 := bC0.out.cell 3 rfl
  have r4 := bC0.out.cell 4 rfl
  go_enter Try.func15, Try.ntmps15
  go_wp2_with fail
  refine (eqInt64S_any (hp.out.below intAt_stays hB0.out) (hp2.out.below intAt_stays hB0.out)).mono ?_
  rintro e w1 ⟨rfl, hb1⟩
  have hB1 : Hid (Below w.heap.size w w1) := hB0.out.trans (hb1.mono hB0.out.size)
  have bA1 : Hid (Box w1 w.heap.size [.int .i64 x.vKind, .slice ap x.vPath.length cp, .string x.vTag, .string (strT x.vTree), .slice a (kidsOf x.vTree).length c] 36) := bA0.out.below hb1 bA0.out.lt
  have bC1 : Hid (Box w1 (w.heap.size + 1) [.int .i64 x.vKind, .slice ap2 x.vPath.length cp2, .string x.vTag, .string (strT x.vTree), .slice a2 (kidsOf x.vTree).length c2] 36) := bC0.out.below hb1 bC0.out.lt
  clear hb1 p0 p1 p2 p3 p4 r0 r1 r2 r3 r4 bA0 bC0
  have p2 := bA1.out.cell 2 rfl
  have p3 := bA1.out.cell 3 rfl
  have p4 := bA1.out.cell 4 rfl
  have r2 := bC1.out.cell 2 rfl
  have r3 := bC1.out.cell 3 rfl
  have r4 := bC1.out.cell 4 rfl
  go_wp2_with fail
  refine (eqTree_two (ht.out.below hB1.out) (ht2.out.below hB1.out)).mono ?_
  rintro e w2 ⟨rfl, hb2⟩
  have hB2 : Hid (Below w.heap.size w w2) := hB1.out.trans (hb2.mono hB1.out.size)
  clear hb2
  go_wp2_with fail
  go_ret
  exact ⟨rfl, hB2.out⟩
/-- an edit, marked -/
def mkE (n : Nat) (x : EditD) (m : Int) : EditD := ⟨x.vKind, mkL cntI mkI x.vPath m, x.vTag, mkTTree n x.vTree (m + (cntL cntI x.vPath : Nat))⟩
/-- how many marks it takes -/
def cntE (n : Nat) (x : EditD) : Nat := cntL cntI x.vPath + cntL (cntTree n) (kidsOf x.vTree)
set_option maxRecDepth 100000 in
set_option maxHeartbeats 4000000 in
theorem markEdit_any {n : Nat} {w : World} {cs : List Value} {x : EditD} {fs : List Nat} {m : Int} (hk : EditO (n + 1) w cs x fs) (h0 : 0 ≤ m) (h1 : m + (cntE n x : Nat) ≤ 4611686018427387904) :
    Calls Try.prog 19 #[.agg cs.toArray, .int .i64 m] w fun e w' => e = .returned (.int .i64 (m + (cntE n x : Nat))) ∧ EditO (n + 1) w' cs (mkE n x m) fs ∧ Out fs w w' := by
  obtain ⟨kp, kk, fp, ft, rfl, hki0, hp0, htg0, ht0, rfl, hnd0⟩ := hk
  obtain ⟨ap, cp, rfl⟩ := hp0.form
  obtain ⟨k1, e1, hs1, _⟩ := ht0.opened
  obtain ⟨a, c, rfl⟩ := hs1.form
  simp only [List.cons.injEq, and_true, true_and] at e1
  subst e1
  have hki : Hid (InI x.vKind) := hki0
  have htg : Hid (x.vTag.size ≤ maxLen) := htg0
  have hnd : Hid ((fp ++ ft).Nodup) := hnd0
  have hfp : Hid (∀ b ∈ fp, b < w.heap.size) := hp0.lt intOwn_lt
  have hft : Hid (∀ b ∈ ft, b < w.heap.size) := TreeO_lt _ _ _ _ _ ht0
  have hb0 : Hid (Below w.heap.size w (w.alloc (.cells #[.int .i64 x.vKind, .slice ap x.vPath.length cp, .string x.vTag, .string (strT x.vTree), .slice a (kidsOf x.vTree).length c] 36))) := (Below.refl _ _).alloc (Nat.le_refl _) _
  have bx : Hid (Box (w.alloc (.cells #[.int .i64 x.vKind, .slice ap x.vPath.length cp, .string x.vTag, .string (strT x.vTree), .slice a (kidsOf x.vTree).length c] 36)) w.heap.size [.int .i64 x.vKind, .slice ap x.vPath.length cp, .string x.vTag, .string (strT x.vTree), .slice a (kidsOf x.vTree).length c] 36) := Box.new w _ _
  have hp : Hid (SeqOwn 1 IntOwn (w.alloc (.cells #[.int .i64 x.vKind, .slice ap x.vPath.length cp, .string x.vTag, .string (strT x.vTree), .slice a (kidsOf x.vTree).length c] 36)) (.slice ap x.vPath.length cp) x.vPath fp) := hp0.stays intOwn_stays (fun b hb => hb0.out.block b (hfp.out b hb))
  have ht : Hid (TreeO (n + 1) (w.alloc (.cells #[.int .i64 x.vKind, .slice ap x.vPath.length cp, .string x.vTag, .string (strT x.vTree), .slice a (kidsOf x.vTree).length c] 36)) [.string (strT x.vTree), .slice a (kidsOf x.vTree).length c] x.vTree ft) := TreeO_stays _ _ _ _ _ _ (fun b hb => hb0.out.block b (hft.out b hb)) ht0
  unfold cntE at h1
  have hcE : Hid ((m + (cntE n x : Nat) : Int) = m + (cntL cntI x.vPath : Nat) + (cntL (cntTree n) (kidsOf x.vTree) : Nat)) := by show _ = _; unfold cntE; omega
  have hnf : Hid (w.heap.size ∉ fp ∧ w.heap.size ∉ ft) := ⟨fun q => by have := hfp.out _ q; omega, fun q => by have := hft.out _ q; omega⟩
  clear hki0 htg0 hnd0 hp0 ht0 hs1
  have p0 := bx.out.cell 0 rfl
  have p1 := bx.out.cell 1 rfl
  have p2 := bx.out.cell 2 rfl
  have p3 := bx.out.cell 3 rfl
  have p4 := bx.out.cell 4 rfl
  go_enter Try.func19, Try.ntmps19
  go_wp2_with fail
  refine (markInt64S_any hp.out h0 (by omega)).mono ?_
  rintro e w1 ⟨rfl, hp1, ho1⟩
  have b1 : Hid (Box w1 w.heap.size [.int .i64 x.vKind, .slice ap x.vPath.length cp, .string x.vTag, .string (strT x.vTree), .slice a (kidsOf x.vTree).length c] 36) := (ho1.keep bx.out.lt hnf.out.1).trans bx.out
  have hp1h : Hid (SeqOwn 1 IntOwn w1 (.slice ap x.vPath.length cp) (mkL cntI mkI x.vPath m) fp) := hp1
  have ho1h : Hid (Out fp (w.alloc (.cells #[.int .i64 x.vKind, .slice ap x.vPath.length cp, .string x.vTag, .string (strT x.vTree), .slice a (kidsOf x.vTree).length c] 36)) w1) := ho1
  have ht1 : Hid (TreeO (n + 1) w1 [.string (strT x.vTree), .slice a (kidsOf x.vTree).length c] x.vTree ft) := TreeO_stays _ _ _ _ _ _ (fun b hb => ho1.keep (by have := hft.out b hb; rw [World.size_alloc]; omega) (fun q => (List.nodup_append.1 hnd.out).2.2 b q b hb rfl)) ht.out
  clear p0 p1 p2 p3 p4 bx hp1 ho1
  have p3 := b1.out.cell 3 rfl
  have p4 := b1.out.cell 4 rfl
  go_wp2_with fail
  refine (markTree_any (n := n) ht1.out (by omega) (by omega)).mono ?_
  rintro e w2 ⟨rfl, ht2, ho2⟩
  have ht2h : Hid (TreeO (n + 1) w2 [.string (strT x.vTree), .slice a (kidsOf x.vTree).length c] (mkTTree n x.vTree (m + (cntL cntI x.vPath : Nat))) ft) := ht2
  have ho2h : Hid (Out ft w1 w2) := ho2
  have hp2 : Hid (SeqOwn 1 IntOwn w2 (.slice ap x.vPath.length cp) (mkL cntI mkI x.vPath m) fp) := SeqOwn.stays intOwn_stays hp1h.out (fun b hb => ho2.keep (hp1h.out.lt intOwn_lt b hb) (fun q => (List.nodup_append.1 hnd.out).2.2 b hb b q rfl))
  clear ht2 ho2
  go_wp2_with fail
  go_ret
  refine ⟨by rw [hcE.out]; rfl, ⟨_, _, fp, ft, ?_, hki.out, hp2.out, htg.out, ht2h.out, rfl, hnd.out⟩, ?_⟩
  · simp [mkE, mkTTree, mkT_str]
  · exact ((Out.of_below hb0.out).trans (ho1h.out.mono (fun b hb => List.mem_append.2 (Or.inl hb)))).trans (ho2h.out.mono (fun b hb => List.mem_append.2 (Or.inr hb)))
set_option maxRecDepth 100000 in
set_option maxHeartbeats 4000000 in
theorem heldEdit_any {n : Nat} {w : World} {lo : Nat} {cs : List Value} {x : EditD} {m : Int} (hk : EditL (n + 1) w lo cs (mkE n x m)) (h0 : 0 ≤ m) (h1 : m + (cntE n x : Nat) ≤ 4611686018427387904) :
    Calls Try.prog 29 #[.agg cs.toArray, .int .i64 m] w fun e w' => e = .returned (.int .i64 (m + (cntE n x : Nat))) ∧ Below w.heap.size w w' := by
  obtain ⟨kp, kk, rfl, _, hp0, _, ht0⟩ := hk
  have hp : Hid (SeqAt 1 IntAt w lo kp (mkL cntI mkI x.vPath m)) := hp0
  have ht : Hid (TreeL (n + 1) w lo [.string (strT x.vTree), kk] (mkTTree n x.vTree (m + (cntL cntI x.vPath : Nat)))) := ht0
  have ef : ([.int .i64 (mkE n x m).vKind, kp, .string (mkE n x m).vTag, .string (strT (mkE n x m).vTree), kk] : List Value) = [.int .i64 x.vKind, kp, .string x.vTag, .string (strT x.vTree), kk] := by simp [mkE, mkTTree, mkT_str]
  rw [ef]
  clear hp0 ht0 ef
  obtain ⟨ap, cp, rfl⟩ := hp.out.form
  obtain ⟨k1, e1, hs1, _⟩ := ht.out.opened
  obtain ⟨a, c, rfl⟩ := hs1.form
  simp only [List.cons.injEq, and_true] at e1
  obtain ⟨_, e1⟩ := e1
  subst e1
  clear hs1
  generalize (mkL cntI mkI x.vPath m).length = lp at hp ⊢
  generalize (kidsOf (mkTTree n x.vTree (m + (cntL cntI x.vPath : Nat)))).length = lk at ht ⊢
  unfold cntE at h1
  have hcE : Hid ((m + (cntE n x : Nat) : Int) = m + (cntL cntI x.vPath : Nat) + (cntL (cntTree n) (kidsOf x.vTree) : Nat)) := by show _ = _; unfold cntE; omega
  have hb0 : Hid (Below w.heap.size w (w.alloc (.cells #[.int .i64 x.vKind, .slice ap lp cp, .string x.vTag, .string (strT x.vTree), .slice a lk c] 36))) := (Below.refl _ _).alloc (Nat.le_refl _) _
  have bx : Hid (Box (w.alloc (.cells #[.int .i64 x.vKind, .slice ap lp cp, .string x.vTag, .string (strT x.vTree), .slice a lk c] 36)) w.heap.size [.int .i64 x.vKind, .slice ap lp cp, .string x.vTag, .string (strT x.vTree), .slice a lk c] 36) := Box.new w _ _
  have p0 := bx.out.cell 0 rfl
  have p1 := bx.out.cell 1 rfl
  have p2 := bx.out.cell 2 rfl
  have p3 := bx.out.cell 3 rfl
  have p4 := bx.out.cell 4 rfl
  go_enter Try.func29, Try.ntmps29
  go_wp2_with fail
  refine (heldInt64S_any (hp.out.below intAt_stays hb0.out) h0 (by omega)).mono ?_
  rintro e w1 ⟨rfl, hb1⟩
  have hB1 : Hid (Below w.heap.size w w1) := hb0.out.trans (hb1.mono hb0.out.size)
  have b1 : Hid (Box w1 w.heap.size [.int .i64 x.vKind, .slice ap lp cp, .string x.vTag, .string (strT x.vTree), .slice a lk c] 36) := bx.out.below hb1 bx.out.lt
  have g1 : ¬ (m + (cntL cntI x.vPath : Nat) < 0) := by omega
  clear hb1 bx p0 p1 p2 p3 p4
  have p3 := b1.out.cell 3 rfl
  have p4 := b1.out.cell 4 rfl
  go_wp2_with fail
  refine (heldTree_any (n := n) (ht.out.below hB1.out) (by omega) (by omega)).mono ?_
  rintro e w2 ⟨rfl, hb2⟩
  have hB2 : Hid (Below w.heap.size w w2) := hB1.out.trans (hb2.mono hB1.out.size)
  have g2 : ¬ (m + (cntL cntI x.vPath : Nat) + (cntL (cntTree n) (kidsOf x.vTree) : Nat) < 0) := by omega
  clear hb2
  go_wp2_with fail
  go_ret
  exact ⟨by rw [hcE.out]; rfl, hB2.out⟩
end Go.Proofs.Ytfncmndgdomjiaa
