/- edit() of the program's changes; Undone of both: walked. -/
import Derived.Test.YtndffcogddefiaaEdTop
import Derived.Test.YtndffcogddefiaaEdLaw
import Derived.Test.YtndffcogddefiaaPathTo
import Derived.Test.YtndffcogddefiaaAppendRows
import Derived.Test.YtndffcogddefiaaAtSpec
namespace Go.Proofs.Ytndffcogddefiaa
open Go.RowKit Go.Deep
/-- an edit that a call has made: it owns its memory -/
def EdA (w w' : World) (x : EditD) (e1 : Ending) : Prop := ∃ (cs : List Value) (fs : List Nat) (n : Nat), e1 = .returned (.agg cs.toArray) ∧ EditO n w' cs x fs ∧ (∀ b ∈ fs, w.heap.size ≤ b) ∧ Below w.heap.size w w'
/-- the same, and of which level its tree is -/
def EdN (n : Nat) (w w' : World) (x : EditD) (e1 : Ending) : Prop := ∃ (cs : List Value) (fs : List Nat), e1 = .returned (.agg cs.toArray) ∧ EditO n w' cs x fs ∧ (∀ b ∈ fs, w.heap.size ≤ b) ∧ Below w.heap.size w w'
theorem EdN.any {n : Nat} {w w' : World} {x : EditD} {e1 : Ending} (h : EdN n w w' x e1) : EdA w w' x e1 := by
  obtain ⟨cs, fs, q⟩ := h
  exact ⟨cs, fs, n, q⟩
theorem EdN.mk {w w' : World} {x : EditD} {C : List Value} {kp kk : Value} {fp ft : List Nat} {n : Nat} (hC : C = [.int .i64 x.vKind, kp, .string x.vTag, .string (strT x.vTree), kk]) (h1 : InI x.vKind) (h2 : SeqOwn 1 IntOwn w' kp x.vPath fp) (h3 : x.vTag.size ≤ maxLen) (h4 : TreeO n w' [.string (strT x.vTree), kk] x.vTree ft) (h5 : (fp ++ ft).Nodup) (h6 : ∀ b ∈ fp ++ ft, w.heap.size ≤ b) (hb : Below w.heap.size w w') : EdN n w w' x (.returned (.agg C.toArray)) :=
  ⟨C, fp ++ ft, rfl, ⟨kp, kk, fp, ft, hC, h1, h2, h3, h4, rfl, h5⟩, h6, hb⟩
set_option maxRecDepth 100000 in
set_option maxHeartbeats 4000000 in
theorem editDel_n {w : World} {lo cp : Nat} {ap : Option Addr} {path : List Int} (hp0 : SeqAt 1 IntAt w lo (.slice ap path.length cp) path) (hpl : path.length ≤ 1048576) :
    Calls Try.prog 62 #[.agg #[.slice ap path.length cp]] w fun e1 w' => EdN 1 w w' ⟨2, path, ⟨#[]⟩, zeroT⟩ e1 := by
  have hp : Hid (SeqAt 1 IntAt w lo (.slice ap path.length cp) path) := hp0
  clear hp0
  have hB0 : Hid (Below w.heap.size w ((w.alloc (.cells #[.slice ap path.length cp] 88)).alloc (.cells #[.int .i64 0, .slice none 0 0, .string ⟨#[]⟩, .string ⟨#[]⟩, .slice none 0 0] 29))) := ((Below.refl _ _).alloc (Nat.le_refl _) _).alloc (by simp) _
  have bA0 : Hid (Box ((w.alloc (.cells #[.slice ap path.length cp] 88)).alloc (.cells #[.int .i64 0, .slice none 0 0, .string ⟨#[]⟩, .string ⟨#[]⟩, .slice none 0 0] 29)) w.heap.size [.slice ap path.length cp] 88) := (Box.new w [.slice ap path.length cp] 88).alloc _
  have bR0 : Hid (Box ((w.alloc (.cells #[.slice ap path.length cp] 88)).alloc (.cells #[.int .i64 0, .slice none 0 0, .string ⟨#[]⟩, .string ⟨#[]⟩, .slice none 0 0] 29)) (w.heap.size + 1) [.int .i64 0, .slice none 0 0, .string ⟨#[]⟩, .string ⟨#[]⟩, .slice none 0 0] 29) := by
    have q := Box.new (w.alloc (.cells #[.slice ap path.length cp] 88)) [.int .i64 0, .slice none 0 0, .string ⟨#[]⟩, .string ⟨#[]⟩, .slice none 0 0] 29
    simpa only [World.size_alloc, Hid] using q
  have c0 := bA0.out.cell 0 rfl
  go_enter Try.func62, Try.ntmps62
  go_wp2_with fail
  refine (listCopyI_any (hp.out.below intAt_stays hB0.out) hpl).mono ?_
  rintro e1 w1 ⟨⟨v, rfl, fp, hs1, nd1, lo1⟩, hb1⟩
  obtain ⟨ap2, cp2, rfl⟩ := hs1.form
  have hB1 : Hid (Below w.heap.size w w1) := hB0.out.trans (hb1.mono hB0.out.size)
  have bR1 : Hid (Box w1 (w.heap.size + 1) [.int .i64 0, .slice none 0 0, .string ⟨#[]⟩, .string ⟨#[]⟩, .slice none 0 0] 29) := bR0.out.below hb1 bR0.out.lt
  have hs1h : Hid (SeqOwn 1 IntOwn w1 (.slice ap2 path.length cp2) path fp) := hs1
  have lo1h : Hid (∀ b ∈ fp, w.heap.size + 1 < b) := fun b hb => by have := lo1 b hb; simp only [World.size_alloc] at this; omega
  have nd1h : Hid (fp.Nodup) := nd1
  clear hb1 hs1 lo1 nd1 c0 bA0 bR0 hB0
  have r0 := bR1.out.cell 0 rfl
  have r1 := bR1.out.cell 1 rfl
  have r2 := bR1.out.cell 2 rfl
  have r3 := bR1.out.cell 3 rfl
  have r4 := bR1.out.cell 4 rfl
  have fR := bR1.out.unfrozen
  go_wp2_with fail
  have z := (((((bR1.out.set (i := 0) (.int .i64 2)).set (i := 1) (.slice ap2 path.length cp2)).set (i := 2) (.string ⟨#[]⟩)).set (i := 3) (.string ⟨#[]⟩)).set (i := 4) (.slice none 0 0))
  have z0 := z.cell 0 rfl
  have z1 := z.cell 1 rfl
  have z2 := z.cell 2 rfl
  have z3 := z.cell 3 rfl
  have z4 := z.cell 4 rfl
  refine bodyPost_ret (v := .agg #[.int .i64 2, .slice ap2 path.length cp2, .string ⟨#[]⟩, .string ⟨#[]⟩, .slice none 0 0]) (by simp [results, Try.results62, go_sem, z0, z1, z2, z3, z4]) rfl ?_
  exact EdN.mk (C := [.int .i64 2, .slice ap2 path.length cp2, .string ⟨#[]⟩, .string ⟨#[]⟩, .slice none 0 0]) (fp := fp) (ft := []) (n := 1) rfl (show InI (2 : Int) by unfold InI; omega) (SeqOwn.stays intOwn_stays hs1h.out (fun b hb => putCells_other [.int .i64 2, .slice ap2 path.length cp2, .string ⟨#[]⟩, .string ⟨#[]⟩, .slice none 0 0] w1 (w.heap.size + 1) 0 b (by have := lo1h.out b hb; omega))) (Nat.zero_le _) (treeO_zero _) (by simpa using nd1h.out) (fun b hb => by have := lo1h.out b (by simpa using hb); omega) (putCells_below [.int .i64 2, .slice ap2 path.length cp2, .string ⟨#[]⟩, .string ⟨#[]⟩, .slice none 0 0] _ _ _ (w.heap.size + 1) 0 (by omega) hB1.out)
set_option maxRecDepth 100000 in
set_option maxHeartbeats 4000000 in
theorem editRen_n {w : World} {lo cp : Nat} {ap : Option Addr} {path : List Int} {tag : ByteArray} (hp0 : SeqAt 1 IntAt w lo (.slice ap path.length cp) path) (hpl : path.length ≤ 1048576) (htg0 : tag.size ≤ maxLen) :
    Calls Try.prog 60 #[.agg #[.slice ap path.length cp, .string tag]] w fun e1 w' => EdN 1 w w' ⟨3, path, tag, zeroT⟩ e1 := by
  have hp : Hid (SeqAt 1 IntAt w lo (.slice ap path.length cp) path) := hp0
  clear hp0
  have htg : Hid (tag.size ≤ maxLen) := htg0
  clear htg0
  have hB0 : Hid (Below w.heap.size w ((w.alloc (.cells #[.slice ap path.length cp, .string tag] 85)).alloc (.cells #[.int .i64 0, .slice none 0 0, .string ⟨#[]⟩, .string ⟨#[]⟩, .slice none 0 0] 29))) := ((Below.refl _ _).alloc (Nat.le_refl _) _).alloc (by simp) _
  have bA0 : Hid (Box ((w.alloc (.cells #[.slice ap path.length cp, .string tag] 85)).alloc (.cells #[.int .i64 0, .slice none 0 0, .string ⟨#[]⟩, .string ⟨#[]⟩, .slice none 0 0] 29)) w.heap.size [.slice ap path.length cp, .string tag] 85) := (Box.new w [.slice ap path.length cp, .string tag] 85).alloc _
  have bR0 : Hid (Box ((w.alloc (.cells #[.slice ap path.length cp, .string tag] 85)).alloc (.cells #[.int .i64 0, .slice none 0 0, .string ⟨#[]⟩, .string ⟨#[]⟩, .slice none 0 0] 29)) (w.heap.size + 1) [.int .i64 0, .slice none 0 0, .string ⟨#[]⟩, .string ⟨#[]⟩, .slice none 0 0] 29) := by
    have q := Box.new (w.alloc (.cells #[.slice ap path.length cp, .string tag] 85)) [.int .i64 0, .slice none 0 0, .string ⟨#[]⟩, .string ⟨#[]⟩, .slice none 0 0] 29
    simpa only [World.size_alloc, Hid] using q
  go_enter Try.func60, Try.ntmps60
  go_upto_region 1 with fail
  refine wp_region_held_drew (S := fun w' => w'.cell? ⟨w.heap.size, 0, none⟩ = some (.slice ap path.length cp) ∧ w'.cell? ⟨w.heap.size, 1, none⟩ = some (.string tag)) (by kernel_rfl) ⟨bA0.out.cell 0 rfl, bA0.out.cell 1 rfl⟩ (fun hHeld => ?_)
  refine tq (i := 0) (d := 3) ?_
  simp only [sz, ss]
  refine tq (i := 1) (d := 4) ?_
  simp only [sz, ss]
  refine tq (i := 3) (d := 6) ?_
  simp only [sz, ss]
  refine tq (i := 4) (d := 7) ?_
  simp only [sz, ss]
  refine wpAnyH_ready (rs := [2]) (by kernel_rfl) (by simp) ?_
  refine AllReadyH.cons rfl (fun K hK => ?_) AllReadyH.nil
  go_simp
  refine (listCopyI_any (by exact hp.out.below intAt_stays (Below.drew hB0.out)) hpl).mono ?_
  rintro e1 w1 ⟨⟨v, rfl, fp, hs1, nd1, lo1⟩, hb1⟩
  obtain ⟨ap2, cp2, rfl⟩ := hs1.form
  have hb1' := undrew hb1
  have hB1 : Hid (Below w.heap.size w w1) := hB0.out.trans (hb1'.mono hB0.out.size)
  have bR1 : Hid (Box w1 (w.heap.size + 1) [.int .i64 0, .slice none 0 0, .string ⟨#[]⟩, .string ⟨#[]⟩, .slice none 0 0] 29) := bR0.out.below hb1' bR0.out.lt
  have bA1 := bA0.out.below hb1' bA0.out.lt
  have hs1h : Hid (SeqOwn 1 IntOwn w1 (.slice ap2 path.length cp2) path fp) := hs1
  have lo1h : Hid (∀ b ∈ fp, w.heap.size + 1 < b) := fun b hb => Nat.lt_of_lt_of_le bR0.out.lt (lo1 b hb)
  have nd1h : Hid (fp.Nodup) := nd1
  clear hb1 hs1 lo1 nd1
  refine hK.out _ _ ⟨bA1.cell 0 rfl, bA1.cell 1 rfl⟩ (fun hHeld => ?_)
  clear hK K
  refine tq (i := 5) (d := 8) ?_
  simp only [sz, ss]
  refine wpAnyH_ready (rs := [6]) (by kernel_rfl) (by simp) ?_
  refine AllReadyH.cons rfl (fun K hK => ?_) AllReadyH.nil
  have r0 := bR1.out.cell 0 rfl
  have r1 := bR1.out.cell 1 rfl
  have r2 := bR1.out.cell 2 rfl
  have r3 := bR1.out.cell 3 rfl
  have r4 := bR1.out.cell 4 rfl
  have fR := bR1.out.unfrozen
  go_simp
  refine hK.out _ _ ⟨(Box.other (i := 4) (Box.other (i := 3) (Box.other (i := 2) (Box.other (i := 1) (Box.other (i := 0) bA1 (by omega) _) (by omega) _) (by omega) _) (by omega) _) (by omega) _).cell 0 rfl, (Box.other (i := 4) (Box.other (i := 3) (Box.other (i := 2) (Box.other (i := 1) (Box.other (i := 0) bA1 (by omega) _) (by omega) _) (by omega) _) (by omega) _) (by omega) _).cell 1 rfl⟩ (fun hHeld => ?_)
  clear hK K
  refine wpAnyH_done (by kernel_rfl) ?_ _
  go_wp2_with fail
  have z := (((((bR1.out.set (i := 0) (.int .i64 3)).set (i := 1) (.slice ap2 path.length cp2)).set (i := 2) (.string tag)).set (i := 3) (.string ⟨#[]⟩)).set (i := 4) (.slice none 0 0))
  have z0 := z.cell 0 rfl
  have z1 := z.cell 1 rfl
  have z2 := z.cell 2 rfl
  have z3 := z.cell 3 rfl
  have z4 := z.cell 4 rfl
  refine bodyPost_ret (v := .agg #[.int .i64 3, .slice ap2 path.length cp2, .string tag, .string ⟨#[]⟩, .slice none 0 0]) (by simp [results, Try.results60, go_sem, z0, z1, z2, z3, z4]) rfl ?_
  exact EdN.mk (C := [.int .i64 3, .slice ap2 path.length cp2, .string tag, .string ⟨#[]⟩, .slice none 0 0]) (fp := fp) (ft := []) (n := 1) rfl (show InI (3 : Int) by unfold InI; omega) (SeqOwn.stays intOwn_stays hs1h.out (fun b hb => putCells_other [.int .i64 3, .slice ap2 path.length cp2, .string tag, .string ⟨#[]⟩, .slice none 0 0] w1 (w.heap.size + 1) 0 b (by have := lo1h.out b hb; omega))) htg.out (treeO_zero _) (by simpa using nd1h.out) (fun b hb => by have := lo1h.out b (by simpa using hb); omega) (putCells_below [.int .i64 3, .slice ap2 path.length cp2, .string tag, .string ⟨#[]⟩, .slice none 0 0] _ _ _ (w.heap.size + 1) 0 (by omega) hB1.out)
set_option maxRecDepth 100000 in
set_option maxHeartbeats 4000000 in
theorem editIns_n {w : World} {lo cp : Nat} {ap : Option Addr} {path : List Int} {n cx : Nat} {ax : Option Addr} {x : TD} (hp0 : SeqAt 1 IntAt w lo (.slice ap path.length cp) path) (hpl : path.length ≤ 1048576) (ht0 : TreeAt w lo n (.string (strT x)) (.slice ax (kidsOf x).length cx) x) (hR0 : RightT x) :
    Calls Try.prog 63 #[.agg #[.slice ap path.length cp, .string (strT x), .slice ax (kidsOf x).length cx]] w fun e1 w' => EdN n w w' ⟨1, path, ⟨#[]⟩, x⟩ e1 := by
  have hp : Hid (SeqAt 1 IntAt w lo (.slice ap path.length cp) path) := hp0
  clear hp0
  have ht : Hid (TreeAt w lo n (.string (strT x)) (.slice ax (kidsOf x).length cx) x) := ht0
  have hR : Hid (RightT x) := hR0
  clear ht0 hR0
  have hB0 : Hid (Below w.heap.size w ((w.alloc (.cells #[.slice ap path.length cp, .string (strT x), .slice ax (kidsOf x).length cx] 90)).alloc (.cells #[.int .i64 0, .slice none 0 0, .string ⟨#[]⟩, .string ⟨#[]⟩, .slice none 0 0] 29))) := ((Below.refl _ _).alloc (Nat.le_refl _) _).alloc (by simp) _
  have bA0 : Hid (Box ((w.alloc (.cells #[.slice ap path.length cp, .string (strT x), .slice ax (kidsOf x).length cx] 90)).alloc (.cells #[.int .i64 0, .slice none 0 0, .string ⟨#[]⟩, .string ⟨#[]⟩, .slice none 0 0] 29)) w.heap.size [.slice ap path.length cp, .string (strT x), .slice ax (kidsOf x).length cx] 90) := (Box.new w [.slice ap path.length cp, .string (strT x), .slice ax (kidsOf x).length cx] 90).alloc _
  have bR0 : Hid (Box ((w.alloc (.cells #[.slice ap path.length cp, .string (strT x), .slice ax (kidsOf x).length cx] 90)).alloc (.cells #[.int .i64 0, .slice none 0 0, .string ⟨#[]⟩, .string ⟨#[]⟩, .slice none 0 0] 29)) (w.heap.size + 1) [.int .i64 0, .slice none 0 0, .string ⟨#[]⟩, .string ⟨#[]⟩, .slice none 0 0] 29) := by
    have q := Box.new (w.alloc (.cells #[.slice ap path.length cp, .string (strT x), .slice ax (kidsOf x).length cx] 90)) [.int .i64 0, .slice none 0 0, .string ⟨#[]⟩, .string ⟨#[]⟩, .slice none 0 0] 29
    simpa only [World.size_alloc, Hid] using q
  go_enter Try.func63, Try.ntmps63
  go_upto_region 1 with fail
  refine wp_region_held_drew (S := fun w' => w'.cell? ⟨w.heap.size, 0, none⟩ = some (.slice ap path.length cp) ∧ w'.cell? ⟨w.heap.size, 1, none⟩ = some (.string (strT x)) ∧ w'.cell? ⟨w.heap.size, 2, none⟩ = some (.slice ax (kidsOf x).length cx)) (by kernel_rfl) ⟨bA0.out.cell 0 rfl, bA0.out.cell 1 rfl, bA0.out.cell 2 rfl⟩ (fun hHeld => ?_)
  refine tq (i := 0) (d := 3) ?_
  simp only [sz, ss]
  refine tq (i := 1) (d := 4) ?_
  simp only [sz, ss]
  refine tq (i := 3) (d := 6) ?_
  simp only [sz, ss]
  refine tq (i := 4) (d := 7) ?_
  simp only [sz, ss]
  refine wpAnyH_ready (rs := [2]) (by kernel_rfl) (by simp) ?_
  refine AllReadyH.cons rfl (fun K hK => ?_) AllReadyH.nil
  go_simp
  refine (listCopyI_any (by exact hp.out.below intAt_stays (Below.drew hB0.out)) hpl).mono ?_
  rintro e1 w1 ⟨⟨v, rfl, fp, hs1, nd1, lo1⟩, hb1⟩
  obtain ⟨ap2, cp2, rfl⟩ := hs1.form
  have hb1' := undrew hb1
  have hB1 : Hid (Below w.heap.size w w1) := hB0.out.trans (hb1'.mono hB0.out.size)
  have bR1 : Hid (Box w1 (w.heap.size + 1) [.int .i64 0, .slice none 0 0, .string ⟨#[]⟩, .string ⟨#[]⟩, .slice none 0 0] 29) := bR0.out.below hb1' bR0.out.lt
  have bA1 := bA0.out.below hb1' bA0.out.lt
  have hs1h : Hid (SeqOwn 1 IntOwn w1 (.slice ap2 path.length cp2) path fp) := hs1
  have lo1h : Hid (∀ b ∈ fp, w.heap.size + 1 < b) := fun b hb => Nat.lt_of_lt_of_le bR0.out.lt (lo1 b hb)
  have nd1h : Hid (fp.Nodup) := nd1
  clear hb1 hs1 lo1 nd1
  refine hK.out _ _ ⟨bA1.cell 0 rfl, bA1.cell 1 rfl, bA1.cell 2 rfl⟩ (fun hHeld => ?_)
  clear hK K
  refine wpAnyH_ready (rs := [5]) (by kernel_rfl) (by simp) ?_
  refine AllReadyH.cons rfl (fun K hK => ?_) AllReadyH.nil
  go_simp
  refine (cpI_all n _ lo _ _ x (by exact TreeAt.below ht.out hB1.out) hR.out).mono ?_
  rintro e1 w2 ⟨⟨cs5, ft, rfl, ho5, nd5, lo5⟩, hb2⟩
  obtain ⟨k5, rfl, hs5, _⟩ := ho5.opened
  obtain ⟨a5, c5, rfl⟩ := hs5.form
  have hB2 : Hid (Below w.heap.size w w2) := hB1.out.trans (hb2.mono hB1.out.size)
  have bR2 : Hid (Box w2 (w.heap.size + 1) [.int .i64 0, .slice none 0 0, .string ⟨#[]⟩, .string ⟨#[]⟩, .slice none 0 0] 29) := bR1.out.below hb2 bR1.out.lt
  have bA2 := bA1.below hb2 bA1.lt
  have hs2h : Hid (SeqOwn 1 IntOwn w2 (.slice ap2 path.length cp2) path fp) := SeqOwn.stays intOwn_stays hs1h.out (fun b hb => hb2.block b (hs1h.out.lt intOwn_lt b hb))
  have ho5h : Hid (TreeO n w2 [.string (strT x), .slice a5 (kidsOf x).length c5] x ft) := ho5
  have nd5h : Hid (ft.Nodup) := nd5
  have lo5h : Hid (∀ b ∈ ft, w1.heap.size ≤ b) := lo5
  have hfp1 : Hid (∀ b ∈ fp, b < w1.heap.size) := hs1h.out.lt intOwn_lt
  have s1 : Hid (w.heap.size + 1 < w1.heap.size) := bR1.out.lt
  clear hb2 ho5 nd5 lo5 hs5
  refine hK.out _ _ ⟨bA2.cell 0 rfl, bA2.cell 1 rfl, bA2.cell 2 rfl⟩ (fun hHeld => ?_)
  clear hK K
  refine tq (i := 6) (d := 9) ?_
  simp only [sz, ss]
  refine wpAnyH_ready (rs := [7]) (by kernel_rfl) (by simp) ?_
  refine AllReadyH.cons rfl (fun K hK => ?_) AllReadyH.nil
  have r0 := bR2.out.cell 0 rfl
  have r1 := bR2.out.cell 1 rfl
  have r2 := bR2.out.cell 2 rfl
  have r3 := bR2.out.cell 3 rfl
  have r4 := bR2.out.cell 4 rfl
  have fR := bR2.out.unfrozen
  go_simp
  refine hK.out _ _ ⟨(Box.other (i := 4) (Box.other (i := 3) (Box.other (i := 2) (Box.other (i := 1) (Box.other (i := 0) bA2 (by omega) _) (by omega) _) (by omega) _) (by omega) _) (by omega) _).cell 0 rfl, (Box.other (i := 4) (Box.other (i := 3) (Box.other (i := 2) (Box.other (i := 1) (Box.other (i := 0) bA2 (by omega) _) (by omega) _) (by omega) _) (by omega) _) (by omega) _).cell 1 rfl, (Box.other (i := 4) (Box.other (i := 3) (Box.other (i := 2) (Box.other (i := 1) (Box.other (i := 0) bA2 (by omega) _) (by omega) _) (by omega) _) (by omega) _) (by omega) _).cell 2 rfl⟩ (fun hHeld => ?_)
  clear hK K
  refine wpAnyH_done (by kernel_rfl) ?_ _
  go_wp2_with fail
  have z := (((((bR2.out.set (i := 0) (.int .i64 1)).set (i := 1) (.slice ap2 path.length cp2)).set (i := 2) (.string ⟨#[]⟩)).set (i := 3) (.string (strT x))).set (i := 4) (.slice a5 (kidsOf x).length c5))
  have z0 := z.cell 0 rfl
  have z1 := z.cell 1 rfl
  have z2 := z.cell 2 rfl
  have z3 := z.cell 3 rfl
  have z4 := z.cell 4 rfl
  refine bodyPost_ret (v := .agg #[.int .i64 1, .slice ap2 path.length cp2, .string ⟨#[]⟩, .string (strT x), .slice a5 (kidsOf x).length c5]) (by simp [results, Try.results63, go_sem, z0, z1, z2, z3, z4]) rfl ?_
  refine EdN.mk (C := [.int .i64 1, .slice ap2 path.length cp2, .string ⟨#[]⟩, .string (strT x), .slice a5 (kidsOf x).length c5]) (fp := fp) (ft := ft) (n := n) rfl (show InI (1 : Int) by unfold InI; omega) (SeqOwn.stays intOwn_stays hs2h.out (fun b hb => putCells_other [.int .i64 1, .slice ap2 path.length cp2, .string ⟨#[]⟩, .string (strT x), .slice a5 (kidsOf x).length c5] w2 (w.heap.size + 1) 0 b (by have := lo1h.out b hb; omega))) (Nat.zero_le _) (TreeO_stays n _ _ _ _ _ (fun b hb => putCells_other [.int .i64 1, .slice ap2 path.length cp2, .string ⟨#[]⟩, .string (strT x), .slice a5 (kidsOf x).length c5] w2 (w.heap.size + 1) 0 b (by have h1 := lo5h.out b hb; have h2 := s1.out; omega)) ho5h.out) ?_ ?_ (putCells_below [.int .i64 1, .slice ap2 path.length cp2, .string ⟨#[]⟩, .string (strT x), .slice a5 (kidsOf x).length c5] _ _ _ (w.heap.size + 1) 0 (by omega) hB2.out)
  · exact List.nodup_append.2 ⟨nd1h.out, nd5h.out, fun b hb b2 hb2 e => by have h1 := hfp1.out b hb; have h2 := lo5h.out b2 hb2; omega⟩
  · intro b hb
    rcases List.mem_append.1 hb with q | q
    · have := lo1h.out b q; omega
    · have h1 := lo5h.out b q; have h2 := s1.out; omega
theorem editDel_any {w : World} {lo cp : Nat} {ap : Option Addr} {path : List Int} (hp : SeqAt 1 IntAt w lo (.slice ap path.length cp) path) (hpl : path.length ≤ 1048576) : Calls Try.prog 62 #[.agg #[.slice ap path.length cp]] w fun e1 w' => EdA w w' ⟨2, path, ⟨#[]⟩, zeroT⟩ e1 := (editDel_n hp hpl).mono fun _ _ h => h.any
theorem editRen_any {w : World} {lo cp : Nat} {ap : Option Addr} {path : List Int} {tag : ByteArray} (hp : SeqAt 1 IntAt w lo (.slice ap path.length cp) path) (hpl : path.length ≤ 1048576) (ht : tag.size ≤ maxLen) : Calls Try.prog 60 #[.agg #[.slice ap path.length cp, .string tag]] w fun e1 w' => EdA w w' ⟨3, path, tag, zeroT⟩ e1 := (editRen_n hp hpl ht).mono fun _ _ h => h.any
theorem editIns_any {w : World} {lo cp : Nat} {ap : Option Addr} {path : List Int} {n cx : Nat} {ax : Option Addr} {x : TD} (hp : SeqAt 1 IntAt w lo (.slice ap path.length cp) path) (hpl : path.length ≤ 1048576) (ht : TreeAt w lo n (.string (strT x)) (.slice ax (kidsOf x).length cx) x) (hR : RightT x) : Calls Try.prog 63 #[.agg #[.slice ap path.length cp, .string (strT x), .slice ax (kidsOf x).length cx]] w fun e1 w' => EdA w w' ⟨1, path, ⟨#[]⟩, x⟩ e1 := (editIns_n hp hpl ht hR).mono fun _ _ h => h.any
end Go.Proofs.Ytndffcogddefiaa
