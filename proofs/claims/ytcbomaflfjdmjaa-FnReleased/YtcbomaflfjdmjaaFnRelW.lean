/- FnReleased: walked. -/
import Derived.Test.YtcbomaflfjdmjaaArDrawsTwo
import Derived.Test.YtcbomaflfjdmjaaArSame
import Derived.Test.YtcbomaflfjdmjaaArnSame
import Derived.Test.YtcbomaflfjdmjaaArRelP
import Derived.Test.YtcbomaflfjdmjaaArRelI
import Derived.Test.YtcbomaflfjdmjaaArHandles
import Derived.Test.YtcbomaflfjdmjaaTakeLit
namespace Go.Proofs.Ytcbomaflfjdmjaa
open Go.RowKit Go.Deep
theorem ansA_at {w w' : World} {cs : List Value} {x : ArenaD} (h : AnsA w w' cs x) : ∃ p d q e, cs = [.slice p x.vSlots.length d, .slice q x.vFree.length e] ∧ ArenaAt w' 0 [.slice p x.vSlots.length d, .slice q x.vFree.length e] x := by
  obtain ⟨fs, ho, _, _⟩ := h
  have ha := ArenaOwn_at (lo := 0) _ _ _ _ ho (fun _ _ => Nat.zero_le _)
  obtain ⟨k0, k1, f0, f1, e, h0, h1, _⟩ := ho
  obtain ⟨p, d, rfl⟩ := h0.form
  obtain ⟨q, e2, rfl⟩ := h1.form
  rw [e] at ha
  exact ⟨p, d, q, e2, e, ha⟩
theorem hcell_at {w : World} {b off cl : Nat} {hl : List HandleD} {n : Nat} (h : SeqAt 2 HandleAt w 0 (.slice (some ⟨b, off, none⟩) n cl) hl) (j : Nat) (hj : j < hl.length) : w.cell? ⟨b, off + j * 2, none⟩ = some (.int .i64 hl[j].vAt) ∧ w.cell? ⟨b, off + j * 2 + 1, none⟩ = some (.int .i64 hl[j].vGen) := by
  obtain ⟨a', c', e, _, hx⟩ := h
  injection e with e1 e2 e3
  obtain ⟨b', off', e4, _, _, hc⟩ := hx (by omega)
  rw [e4] at e1
  injection e1 with e1
  injection e1 with e5 e6
  subst e5 e6
  obtain ⟨cs, _, lie, e, _⟩ := hc j hj
  subst e
  have z0 := lie 0 (by simp)
  have z1 := lie 1 (by simp)
  simp only [List.getElem?_cons_zero, List.getElem?_cons_succ, Nat.add_zero] at z0 z1
  exact ⟨z0, z1⟩
set_option maxRecDepth 100000 in
set_option maxHeartbeats 8000000 in
theorem fnReleased.walk {a : Option Addr} {n cap : Nat} (w : World) (_ : n ≤ maxLen) (hcode : n ≤ 1048576 → CodeAt w a n) :
    Calls Try.prog 4 #[.slice a n cap] w fun e w' => e = .returned (.bool true) ∧ Below w.heap.size w w' := by
  by_cases hbig : (1048576 : Int) < (n : Int)
  · go_enter Try.func4, Try.ntmps4
    go_wp2_with (go_at_call 7; refine (big_any _).mono ?_; rintro e w' ⟨rfl, rfl⟩; rw [decide_eq_true hbig])
    go_ret
    exact ⟨rfl, Below.refl _ _⟩
  have h' : Hid (CodeAt w a n) := hcode (by omega)
  clear hcode
  go_enter Try.func4, Try.ntmps4
  go_wp2_with (go_at_call 7; refine (big_any _).mono ?_; rintro e w' ⟨rfl, e9⟩; have e10 := e9.symm; clear e9; subst e10; rw [decide_eq_false hbig])
  have hBel : Hid (Below w.heap.size w w) := Below.refl _ _
  refine (drawReleased_any h'.out).mono ?_
  rintro e w1 ⟨⟨k0, k1, x, hA, hX, rfl, ho⟩, hb1⟩
  obtain ⟨p0, d0, p1, d1, rfl, rfl⟩ := ho.form
  replace hBel : Hid (Below w.heap.size w w1) := hBel.out.trans (Below.mono (hb1) hBel.out.size)
  have hAx : Hid (ArenaAt w1 0 [.slice p0 x.vSlots.length d0, .slice p1 x.vFree.length d1] x) := ho.at
  clear ho hb1 h' hbig
  have hbA : Below w1.heap.size w1 ((w1.alloc (.cells #[.slice p0 x.vSlots.length d0, .slice p1 x.vFree.length d1] 27)).alloc (.cells #[.int .i64 hA, .int .i64 hX] 31)) := ((Below.refl _ _).alloc (Nat.le_refl _) _).alloc (by simp) _
  replace hBel : Hid (Below w.heap.size w ((w1.alloc (.cells #[.slice p0 x.vSlots.length d0, .slice p1 x.vFree.length d1] 27)).alloc (.cells #[.int .i64 hA, .int .i64 hX] 31))) := hBel.out.trans (Below.mono (hbA) hBel.out.size)
  replace hAx : Hid (ArenaAt ((w1.alloc (.cells #[.slice p0 x.vSlots.length d0, .slice p1 x.vFree.length d1] 27)).alloc (.cells #[.int .i64 hA, .int .i64 hX] 31)) 0 [.slice p0 x.vSlots.length d0, .slice p1 x.vFree.length d1] x) := ArenaAt_stays _ _ _ 0 _ _ (.of_below (hbA)) hAx.out
  have bT : Hid (Box ((w1.alloc (.cells #[.slice p0 x.vSlots.length d0, .slice p1 x.vFree.length d1] 27)).alloc (.cells #[.int .i64 hA, .int .i64 hX] 31)) w1.heap.size [.slice p0 x.vSlots.length d0, .slice p1 x.vFree.length d1] 27) := (Box.new w1 _ _).alloc _
  have bH : Hid (Box ((w1.alloc (.cells #[.slice p0 x.vSlots.length d0, .slice p1 x.vFree.length d1] 27)).alloc (.cells #[.int .i64 hA, .int .i64 hX] 31)) (w1.heap.size + 1) [.int .i64 hA, .int .i64 hX] 31) := by have z := Box.new (w1.alloc (.cells #[.slice p0 x.vSlots.length d0, .slice p1 x.vFree.length d1] 27)) [.int .i64 hA, .int .i64 hX] 31; simpa [Hid] using z
  clear hbA
  go_wp2_with fail
  generalize ((w1.alloc (.cells #[.slice p0 x.vSlots.length d0, .slice p1 x.vFree.length d1] 27)).alloc (.cells #[.int .i64 hA, .int .i64 hX] 31)) = w2 at *
  generalize w1.heap.size = BT at *
  refine (implReleased_any hAx.out).mono ?_
  rintro e w3 ⟨⟨csB, rfl, hans⟩, hb3⟩
  generalize hst0 : releasedD x hA hX = r at hans ⊢
  have hst : Hid (releasedD x hA hX = r) := hst0
  clear hst0
  obtain ⟨y, is⟩ := r
  dsimp only at hans ⊢
  obtain ⟨pb, db, qb, eb, rfl, hab⟩ := ansA_at hans
  obtain ⟨fY, hoY0, _, _⟩ := hans
  replace hBel : Hid (Below w.heap.size w w3) := hBel.out.trans (Below.mono (hb3) hBel.out.size)
  replace hAx : Hid (ArenaAt w3 0 [.slice p0 x.vSlots.length d0, .slice p1 x.vFree.length d1] x) := ArenaAt_stays _ _ _ 0 _ _ (.of_below (hb3)) hAx.out
  replace bT : Hid (Box w3 BT [.slice p0 x.vSlots.length d0, .slice p1 x.vFree.length d1] 27) := bT.out.below (hb3) bT.out.lt
  replace bH : Hid (Box w3 (BT + 1) [.int .i64 hA, .int .i64 hX] 31) := bH.out.below (hb3) bH.out.lt
  have hAb : Hid (ArenaAt w3 0 [.slice pb y.vSlots.length db, .slice qb y.vFree.length eb] y) := hab
  have hoY : Hid (ArenaOwn w3 [.slice pb y.vSlots.length db, .slice qb y.vFree.length eb] y fY) := hoY0
  clear hoY0 hab hb3
  have hbA : Below w3.heap.size w3 (w3.alloc (.cells #[.slice pb y.vSlots.length db, .slice qb y.vFree.length eb] 27)) := (Below.refl _ _).alloc (Nat.le_refl _) _
  replace hBel : Hid (Below w.heap.size w (w3.alloc (.cells #[.slice pb y.vSlots.length db, .slice qb y.vFree.length eb] 27))) := hBel.out.trans (Below.mono (hbA) hBel.out.size)
  replace hAx : Hid (ArenaAt (w3.alloc (.cells #[.slice pb y.vSlots.length db, .slice qb y.vFree.length eb] 27)) 0 [.slice p0 x.vSlots.length d0, .slice p1 x.vFree.length d1] x) := ArenaAt_stays _ _ _ 0 _ _ (.of_below (hbA)) hAx.out
  replace bT : Hid (Box (w3.alloc (.cells #[.slice pb y.vSlots.length db, .slice qb y.vFree.length eb] 27)) BT [.slice p0 x.vSlots.length d0, .slice p1 x.vFree.length d1] 27) := bT.out.below (hbA) bT.out.lt
  replace bH : Hid (Box (w3.alloc (.cells #[.slice pb y.vSlots.length db, .slice qb y.vFree.length eb] 27)) (BT + 1) [.int .i64 hA, .int .i64 hX] 31) := bH.out.below (hbA) bH.out.lt
  replace hAb : Hid (ArenaAt (w3.alloc (.cells #[.slice pb y.vSlots.length db, .slice qb y.vFree.length eb] 27)) 0 [.slice pb y.vSlots.length db, .slice qb y.vFree.length eb] y) := ArenaAt_stays _ _ _ 0 _ _ (.of_below (hbA)) hAb.out
  replace hoY : Hid (ArenaOwn (w3.alloc (.cells #[.slice pb y.vSlots.length db, .slice qb y.vFree.length eb] 27)) [.slice pb y.vSlots.length db, .slice qb y.vFree.length eb] y fY) := ArenaOwn_stays _ _ _ _ _ (fun b q => Below.block (hbA) b (ArenaOwn_lt _ _ _ _ hoY.out b q)) hoY.out
  have bB : Hid (Box (w3.alloc (.cells #[.slice pb y.vSlots.length db, .slice qb y.vFree.length eb] 27)) w3.heap.size [.slice pb y.vSlots.length db, .slice qb y.vFree.length eb] 27) := Box.new w3 _ _
  clear hbA
  have bTc0 := bT.out.cell 0 rfl
  have bTc1 := bT.out.cell 1 rfl
  have bHc0 := bH.out.cell 0 rfl
  have bHc1 := bH.out.cell 1 rfl
  go_wp2_with fail
  clear bTc0 bTc1 bHc0 bHc1
  generalize (w3.alloc (.cells #[.slice pb y.vSlots.length db, .slice qb y.vFree.length eb] 27)) = w4 at *
  generalize w3.heap.size = BB at *
  refine (specReleased_any hAx.out).mono ?_
  rintro e w5 ⟨⟨csW, rfl, hans⟩, hb5⟩
  rw [hst.out] at hans ⊢
  dsimp only at hans ⊢
  obtain ⟨pw, dw, qw, ew, rfl, haw⟩ := ansA_at hans
  replace hBel : Hid (Below w.heap.size w w5) := hBel.out.trans (Below.mono (hb5) hBel.out.size)
  replace hAx : Hid (ArenaAt w5 0 [.slice p0 x.vSlots.length d0, .slice p1 x.vFree.length d1] x) := ArenaAt_stays _ _ _ 0 _ _ (.of_below (hb5)) hAx.out
  replace bT : Hid (Box w5 BT [.slice p0 x.vSlots.length d0, .slice p1 x.vFree.length d1] 27) := bT.out.below (hb5) bT.out.lt
  replace bH : Hid (Box w5 (BT + 1) [.int .i64 hA, .int .i64 hX] 31) := bH.out.below (hb5) bH.out.lt
  replace hAb : Hid (ArenaAt w5 0 [.slice pb y.vSlots.length db, .slice qb y.vFree.length eb] y) := ArenaAt_stays _ _ _ 0 _ _ (.of_below (hb5)) hAb.out
  replace hoY : Hid (ArenaOwn w5 [.slice pb y.vSlots.length db, .slice qb y.vFree.length eb] y fY) := ArenaOwn_stays _ _ _ _ _ (fun b q => Below.block (hb5) b (ArenaOwn_lt _ _ _ _ hoY.out b q)) hoY.out
  replace bB : Hid (Box w5 BB [.slice pb y.vSlots.length db, .slice qb y.vFree.length eb] 27) := bB.out.below (hb5) bB.out.lt
  have hAw : Hid (ArenaAt w5 0 [.slice pw y.vSlots.length dw, .slice qw y.vFree.length ew] y) := haw
  clear hans haw hb5
  have hbA : Below w5.heap.size w5 (w5.alloc (.cells #[.slice pw y.vSlots.length dw, .slice qw y.vFree.length ew] 27)) := (Below.refl _ _).alloc (Nat.le_refl _) _
  replace hBel : Hid (Below w.heap.size w (w5.alloc (.cells #[.slice pw y.vSlots.length dw, .slice qw y.vFree.length ew] 27))) := hBel.out.trans (Below.mono (hbA) hBel.out.size)
  replace hAx : Hid (ArenaAt (w5.alloc (.cells #[.slice pw y.vSlots.length dw, .slice qw y.vFree.length ew] 27)) 0 [.slice p0 x.vSlots.length d0, .slice p1 x.vFree.length d1] x) := ArenaAt_stays _ _ _ 0 _ _ (.of_below (hbA)) hAx.out
  replace bT : Hid (Box (w5.alloc (.cells #[.slice pw y.vSlots.length dw, .slice qw y.vFree.length ew] 27)) BT [.slice p0 x.vSlots.length d0, .slice p1 x.vFree.length d1] 27) := bT.out.below (hbA) bT.out.lt
  replace bH : Hid (Box (w5.alloc (.cells #[.slice pw y.vSlots.length dw, .slice qw y.vFree.length ew] 27)) (BT + 1) [.int .i64 hA, .int .i64 hX] 31) := bH.out.below (hbA) bH.out.lt
  replace hAb : Hid (ArenaAt (w5.alloc (.cells #[.slice pw y.vSlots.length dw, .slice qw y.vFree.length ew] 27)) 0 [.slice pb y.vSlots.length db, .slice qb y.vFree.length eb] y) := ArenaAt_stays _ _ _ 0 _ _ (.of_below (hbA)) hAb.out
  replace hoY : Hid (ArenaOwn (w5.alloc (.cells #[.slice pw y.vSlots.length dw, .slice qw y.vFree.length ew] 27)) [.slice pb y.vSlots.length db, .slice qb y.vFree.length eb] y fY) := ArenaOwn_stays _ _ _ _ _ (fun b q => Below.block (hbA) b (ArenaOwn_lt _ _ _ _ hoY.out b q)) hoY.out
  replace bB : Hid (Box (w5.alloc (.cells #[.slice pw y.vSlots.length dw, .slice qw y.vFree.length ew] 27)) BB [.slice pb y.vSlots.length db, .slice qb y.vFree.length eb] 27) := bB.out.below (hbA) bB.out.lt
  replace hAw : Hid (ArenaAt (w5.alloc (.cells #[.slice pw y.vSlots.length dw, .slice qw y.vFree.length ew] 27)) 0 [.slice pw y.vSlots.length dw, .slice qw y.vFree.length ew] y) := ArenaAt_stays _ _ _ 0 _ _ (.of_below (hbA)) hAw.out
  have bW : Hid (Box (w5.alloc (.cells #[.slice pw y.vSlots.length dw, .slice qw y.vFree.length ew] 27)) w5.heap.size [.slice pw y.vSlots.length dw, .slice qw y.vFree.length ew] 27) := Box.new w5 _ _
  clear hbA
  have bBc0 := bB.out.cell 0 rfl
  have bBc1 := bB.out.cell 1 rfl
  have bWc0 := bW.out.cell 0 rfl
  have bWc1 := bW.out.cell 1 rfl
  go_wp2_with fail
  clear bBc0 bBc1 bWc0 bWc1
  generalize (w5.alloc (.cells #[.slice pw y.vSlots.length dw, .slice qw y.vFree.length ew] 27)) = w6 at *
  generalize w5.heap.size = BW at *
  refine (sameArena_any hAb.out hAw.out).mono ?_
  rintro e w7 ⟨rfl, hb7⟩
  replace hBel : Hid (Below w.heap.size w w7) := hBel.out.trans (Below.mono (hb7) hBel.out.size)
  replace hAx : Hid (ArenaAt w7 0 [.slice p0 x.vSlots.length d0, .slice p1 x.vFree.length d1] x) := ArenaAt_stays _ _ _ 0 _ _ (.of_below (hb7)) hAx.out
  replace bT : Hid (Box w7 BT [.slice p0 x.vSlots.length d0, .slice p1 x.vFree.length d1] 27) := bT.out.below (hb7) bT.out.lt
  replace bH : Hid (Box w7 (BT + 1) [.int .i64 hA, .int .i64 hX] 31) := bH.out.below (hb7) bH.out.lt
  replace hAb : Hid (ArenaAt w7 0 [.slice pb y.vSlots.length db, .slice qb y.vFree.length eb] y) := ArenaAt_stays _ _ _ 0 _ _ (.of_below (hb7)) hAb.out
  replace hoY : Hid (ArenaOwn w7 [.slice pb y.vSlots.length db, .slice qb y.vFree.length eb] y fY) := ArenaOwn_stays _ _ _ _ _ (fun b q => Below.block (hb7) b (ArenaOwn_lt _ _ _ _ hoY.out b q)) hoY.out
  replace bB : Hid (Box w7 BB [.slice pb y.vSlots.length db, .slice qb y.vFree.length eb] 27) := bB.out.below (hb7) bB.out.lt
  replace hAw : Hid (ArenaAt w7 0 [.slice pw y.vSlots.length dw, .slice qw y.vFree.length ew] y) := ArenaAt_stays _ _ _ 0 _ _ (.of_below (hb7)) hAw.out
  replace bW : Hid (Box w7 BW [.slice pw y.vSlots.length dw, .slice qw y.vFree.length ew] 27) := bW.out.below (hb7) bW.out.lt
  clear hb7
  cases is
  · skip
    have bBc0 := bB.out.cell 0 rfl
    have bBc1 := bB.out.cell 1 rfl
    have bWc0 := bW.out.cell 0 rfl
    have bWc1 := bW.out.cell 1 rfl
    go_wp2_with fail
    clear bBc0 bBc1 bWc0 bWc1
    refine (sameArena_any hAb.out hAw.out).mono ?_
    rintro e w8 ⟨rfl, hb8⟩
    replace hBel : Hid (Below w.heap.size w w8) := hBel.out.trans (Below.mono (hb8) hBel.out.size)
    replace hAx : Hid (ArenaAt w8 0 [.slice p0 x.vSlots.length d0, .slice p1 x.vFree.length d1] x) := ArenaAt_stays _ _ _ 0 _ _ (.of_below (hb8)) hAx.out
    replace bT : Hid (Box w8 BT [.slice p0 x.vSlots.length d0, .slice p1 x.vFree.length d1] 27) := bT.out.below (hb8) bT.out.lt
    replace bH : Hid (Box w8 (BT + 1) [.int .i64 hA, .int .i64 hX] 31) := bH.out.below (hb8) bH.out.lt
    replace hAb : Hid (ArenaAt w8 0 [.slice pb y.vSlots.length db, .slice qb y.vFree.length eb] y) := ArenaAt_stays _ _ _ 0 _ _ (.of_below (hb8)) hAb.out
    replace hoY : Hid (ArenaOwn w8 [.slice pb y.vSlots.length db, .slice qb y.vFree.length eb] y fY) := ArenaOwn_stays _ _ _ _ _ (fun b q => Below.block (hb8) b (ArenaOwn_lt _ _ _ _ hoY.out b q)) hoY.out
    replace bB : Hid (Box w8 BB [.slice pb y.vSlots.length db, .slice qb y.vFree.length eb] 27) := bB.out.below (hb8) bB.out.lt
    replace hAw : Hid (ArenaAt w8 0 [.slice pw y.vSlots.length dw, .slice qw y.vFree.length ew] y) := ArenaAt_stays _ _ _ 0 _ _ (.of_below (hb8)) hAw.out
    replace bW : Hid (Box w8 BW [.slice pw y.vSlots.length dw, .slice qw y.vFree.length ew] 27) := bW.out.below (hb8) bW.out.lt
    clear hb8
    go_wp2_with fail
    go_ret
    exact ⟨rfl, hBel.out⟩
  obtain ⟨hl, ehl, hfew, hdB, hrgt, hcnt, hdead⟩ : ∃ hl, handlesD y = hl ∧ hl.length ≤ 12 ∧ Hid (∀ j, (hj : j < hl.length) → derefD y hl[j].vAt hl[j].vGen = ((derefD x hl[j].vAt hl[j].vGen).1, true)) ∧ Hid (rightB y = true) ∧ Hid ((handlesD x).length = hl.length + 1) ∧ Hid (Dead y hA hX) :=
    ⟨handlesD y, rfl, handlesD_few y, fun j hj => rel_deref hst.out (live_handle hj), rightB_true (rel_right hst.out), (rel_count hst.out).symm, dead_rel hst.out⟩
  have ehl' : Hid (handlesD y = hl) := ehl
  clear ehl
  have bBc0 := bB.out.cell 0 rfl
  have bBc1 := bB.out.cell 1 rfl
  go_wp2_with fail
  clear bBc0 bBc1
  refine (implHandlesOf_any hAb.out).mono ?_
  rintro e w8 ⟨⟨kl, fl, rfl, ownL, _, _⟩, hb8⟩
  rw [ehl'.out] at ownL
  obtain ⟨al, cl, rfl⟩ := ownL.form
  replace hBel : Hid (Below w.heap.size w w8) := hBel.out.trans (Below.mono (hb8) hBel.out.size)
  replace hAx : Hid (ArenaAt w8 0 [.slice p0 x.vSlots.length d0, .slice p1 x.vFree.length d1] x) := ArenaAt_stays _ _ _ 0 _ _ (.of_below (hb8)) hAx.out
  replace bT : Hid (Box w8 BT [.slice p0 x.vSlots.length d0, .slice p1 x.vFree.length d1] 27) := bT.out.below (hb8) bT.out.lt
  replace bH : Hid (Box w8 (BT + 1) [.int .i64 hA, .int .i64 hX] 31) := bH.out.below (hb8) bH.out.lt
  replace hAb : Hid (ArenaAt w8 0 [.slice pb y.vSlots.length db, .slice qb y.vFree.length eb] y) := ArenaAt_stays _ _ _ 0 _ _ (.of_below (hb8)) hAb.out
  replace hoY : Hid (ArenaOwn w8 [.slice pb y.vSlots.length db, .slice qb y.vFree.length eb] y fY) := ArenaOwn_stays _ _ _ _ _ (fun b q => Below.block (hb8) b (ArenaOwn_lt _ _ _ _ hoY.out b q)) hoY.out
  replace bB : Hid (Box w8 BB [.slice pb y.vSlots.length db, .slice qb y.vFree.length eb] 27) := bB.out.below (hb8) bB.out.lt
  replace hAw : Hid (ArenaAt w8 0 [.slice pw y.vSlots.length dw, .slice qw y.vFree.length ew] y) := ArenaAt_stays _ _ _ 0 _ _ (.of_below (hb8)) hAw.out
  replace bW : Hid (Box w8 BW [.slice pw y.vSlots.length dw, .slice qw y.vFree.length ew] 27) := bW.out.below (hb8) bW.out.lt
  have hL : Hid (SeqAt 2 HandleAt w8 0 (.slice al hl.length cl) hl) := ownL.at HandleOwn_at (fun _ _ => Nat.zero_le _)
  clear hb8 ownL
  go_wp2_with fail
  go_loopw [10] (fun i wr => ∃ j : Nat, j ≤ hl.length ∧ i = .int .i64 j ∧ Hid (Below w.heap.size w wr) ∧ Hid (ArenaAt wr 0 [.slice p0 x.vSlots.length d0, .slice p1 x.vFree.length d1] x) ∧ Hid (Box wr BT [.slice p0 x.vSlots.length d0, .slice p1 x.vFree.length d1] 27) ∧ Hid (Box wr (BT + 1) [.int .i64 hA, .int .i64 hX] 31) ∧ Hid (ArenaAt wr 0 [.slice pb y.vSlots.length db, .slice qb y.vFree.length eb] y) ∧ Hid (ArenaOwn wr [.slice pb y.vSlots.length db, .slice qb y.vFree.length eb] y fY) ∧ Hid (Box wr BB [.slice pb y.vSlots.length db, .slice qb y.vFree.length eb] 27) ∧ Hid (ArenaAt wr 0 [.slice pw y.vSlots.length dw, .slice qw y.vFree.length ew] y) ∧ Hid (Box wr BW [.slice pw y.vSlots.length dw, .slice qw y.vFree.length ew] 27) ∧ Hid (SeqAt 2 HandleAt wr 0 (.slice al hl.length cl) hl)) (fun i _ => hl.length - (intOf i).toNat)
  case atStart => exact ⟨0, by omega, rfl, hBel, hAx, bT, bH, hAb, hoY, bB, hAw, bW, hL⟩
  case round =>
    clear hBel hAx bT bH hAb hoY bB hAw bW hL
    obtain ⟨j, hj, rfl, hBel, hAx, bT, bH, hAb, hoY, bB, hAw, bW, hL⟩ := hrel
    by_cases hlt : j < hl.length
    · skip
      have hlt' : (j : Int) < (hl.length : Int) := by omega
      have h0' : (0 : Int) ≤ (j : Int) := by omega
      obtain ⟨b, off, ea⟩ : ∃ b off, al = some ⟨b, off, none⟩ := by obtain ⟨a', c', e, _, hx⟩ := hL.out; obtain ⟨b, off, e4, _⟩ := hx (by omega); injection e with e1 _ _; exact ⟨b, off, by rw [e1, e4]⟩
      subst ea
      have hdN : Hid _ := hdB.out j hlt
      go_wp2_with fail
      replace hBel : Hid (Below w.heap.size w wr.drew) := hBel.out.drew
      replace hAx : Hid (ArenaAt wr.drew 0 [.slice p0 x.vSlots.length d0, .slice p1 x.vFree.length d1] x) := ArenaAt_stays _ _ _ 0 _ _ (.of_below (Below.drew (Below.refl _ _))) hAx.out
      replace bT : Hid (Box wr.drew BT [.slice p0 x.vSlots.length d0, .slice p1 x.vFree.length d1] 27) := bT.out
      replace bH : Hid (Box wr.drew (BT + 1) [.int .i64 hA, .int .i64 hX] 31) := bH.out
      replace hAb : Hid (ArenaAt wr.drew 0 [.slice pb y.vSlots.length db, .slice qb y.vFree.length eb] y) := ArenaAt_stays _ _ _ 0 _ _ (.of_below (Below.drew (Below.refl _ _))) hAb.out
      replace hoY : Hid (ArenaOwn wr.drew [.slice pb y.vSlots.length db, .slice qb y.vFree.length eb] y fY) := ArenaOwn_stays _ _ _ _ _ (fun b q => Below.block (Below.drew (Below.refl _ _)) b (ArenaOwn_lt _ _ _ _ hoY.out b q)) hoY.out
      replace bB : Hid (Box wr.drew BB [.slice pb y.vSlots.length db, .slice qb y.vFree.length eb] 27) := bB.out
      replace hAw : Hid (ArenaAt wr.drew 0 [.slice pw y.vSlots.length dw, .slice qw y.vFree.length ew] y) := ArenaAt_stays _ _ _ 0 _ _ (.of_below (Below.drew (Below.refl _ _))) hAw.out
      replace bW : Hid (Box wr.drew BW [.slice pw y.vSlots.length dw, .slice qw y.vFree.length ew] 27) := bW.out
      replace hL : Hid (SeqAt 2 HandleAt wr.drew 0 (.slice (some ⟨b, off, none⟩) hl.length cl) hl) := hL.out.below HandleAt_stays (Below.drew (Below.refl _ _))
      obtain ⟨q0, q1⟩ := hcell_at hL.out j hlt
      refine wp_region_held_drew (S := fun w' => w'.cell? ⟨BT, 0, none⟩ = some (.slice p0 x.vSlots.length d0) ∧ w'.cell? ⟨BT, 1, none⟩ = some (.slice p1 x.vFree.length d1) ∧ w'.cell? ⟨b, off + j * 2, none⟩ = some (.int .i64 hl[j].vAt) ∧ w'.cell? ⟨b, off + j * 2 + 1, none⟩ = some (.int .i64 hl[j].vGen)) (by kernel_rfl) ⟨bT.out.cell 0 rfl, bT.out.cell 1 rfl, q0, q1⟩ (fun hHeld => ?_)
      refine tq (i := 0) (d := 73) ?_
      simp only [sz, ss]
      refine tq (i := 1) (d := 74) ?_
      simp only [sz, ss]
      refine tq (i := 2) (d := 75) ?_
      simp only [sz, ss]
      refine tq (i := 3) (d := 76) ?_
      simp only [sz, ss]
      refine tq (i := 4) (d := 77) ?_
      simp only [sz, ss]
      refine wpAnyH_ready (rs := [5]) (by kernel_rfl) (by simp) ?_
      refine AllReadyH.cons rfl (fun K hK => ?_) AllReadyH.nil
      go_simp
      refine (implDeref_any (by exact hAx.out)).mono ?_
      rintro e w1 ⟨rfl, hb1⟩
      replace hBel : Hid (Below w.heap.size w w1) := hBel.out.trans (Below.mono (hb1) hBel.out.size)
      replace hAx : Hid (ArenaAt w1 0 [.slice p0 x.vSlots.length d0, .slice p1 x.vFree.length d1] x) := ArenaAt_stays _ _ _ 0 _ _ (.of_below (hb1)) hAx.out
      replace bT : Hid (Box w1 BT [.slice p0 x.vSlots.length d0, .slice p1 x.vFree.length d1] 27) := bT.out.below (hb1) bT.out.lt
      replace bH : Hid (Box w1 (BT + 1) [.int .i64 hA, .int .i64 hX] 31) := bH.out.below (hb1) bH.out.lt
      replace hAb : Hid (ArenaAt w1 0 [.slice pb y.vSlots.length db, .slice qb y.vFree.length eb] y) := ArenaAt_stays _ _ _ 0 _ _ (.of_below (hb1)) hAb.out
      replace hoY : Hid (ArenaOwn w1 [.slice pb y.vSlots.length db, .slice qb y.vFree.length eb] y fY) := ArenaOwn_stays _ _ _ _ _ (fun b q => Below.block (hb1) b (ArenaOwn_lt _ _ _ _ hoY.out b q)) hoY.out
      replace bB : Hid (Box w1 BB [.slice pb y.vSlots.length db, .slice qb y.vFree.length eb] 27) := bB.out.below (hb1) bB.out.lt
      replace hAw : Hid (ArenaAt w1 0 [.slice pw y.vSlots.length dw, .slice qw y.vFree.length ew] y) := ArenaAt_stays _ _ _ 0 _ _ (.of_below (hb1)) hAw.out
      replace bW : Hid (Box w1 BW [.slice pw y.vSlots.length dw, .slice qw y.vFree.length ew] 27) := bW.out.below (hb1) bW.out.lt
      replace hL : Hid (SeqAt 2 HandleAt w1 0 (.slice (some ⟨b, off, none⟩) hl.length cl) hl) := hL.out.below HandleAt_stays (hb1)
      refine hK.out _ _ ⟨cell_on hb1 hHeld.1, cell_on hb1 hHeld.2.1, cell_on hb1 hHeld.2.2.1, cell_on hb1 hHeld.2.2.2⟩ (fun hHeld => ?_)
      clear hK K
      refine tq (i := 6) (d := 72) ?_
      simp only [sz, ss]
      refine tq (i := 7) (d := 79) ?_
      simp only [sz, ss]
      refine tq (i := 8) (d := 80) ?_
      simp only [sz, ss]
      refine tq (i := 9) (d := 11) ?_
      simp only [sz, ss]
      refine tq (i := 10) (d := 12) ?_
      simp only [sz, ss]
      refine wpAnyH_done (by kernel_rfl) ?_ _
      clear q0 q1 hHeld
      go_wp2_with fail
      generalize w1 = w6 at *
      replace hBel : Hid (Below w.heap.size w w6.drew) := hBel.out.drew
      replace hAx : Hid (ArenaAt w6.drew 0 [.slice p0 x.vSlots.length d0, .slice p1 x.vFree.length d1] x) := ArenaAt_stays _ _ _ 0 _ _ (.of_below (Below.drew (Below.refl _ _))) hAx.out
      replace bT : Hid (Box w6.drew BT [.slice p0 x.vSlots.length d0, .slice p1 x.vFree.length d1] 27) := bT.out
      replace bH : Hid (Box w6.drew (BT + 1) [.int .i64 hA, .int .i64 hX] 31) := bH.out
      replace hAb : Hid (ArenaAt w6.drew 0 [.slice pb y.vSlots.length db, .slice qb y.vFree.length eb] y) := ArenaAt_stays _ _ _ 0 _ _ (.of_below (Below.drew (Below.refl _ _))) hAb.out
      replace hoY : Hid (ArenaOwn w6.drew [.slice pb y.vSlots.length db, .slice qb y.vFree.length eb] y fY) := ArenaOwn_stays _ _ _ _ _ (fun b q => Below.block (Below.drew (Below.refl _ _)) b (ArenaOwn_lt _ _ _ _ hoY.out b q)) hoY.out
      replace bB : Hid (Box w6.drew BB [.slice pb y.vSlots.length db, .slice qb y.vFree.length eb] 27) := bB.out
      replace hAw : Hid (ArenaAt w6.drew 0 [.slice pw y.vSlots.length dw, .slice qw y.vFree.length ew] y) := ArenaAt_stays _ _ _ 0 _ _ (.of_below (Below.drew (Below.refl _ _))) hAw.out
      replace bW : Hid (Box w6.drew BW [.slice pw y.vSlots.length dw, .slice qw y.vFree.length ew] 27) := bW.out
      replace hL : Hid (SeqAt 2 HandleAt w6.drew 0 (.slice (some ⟨b, off, none⟩) hl.length cl) hl) := hL.out.below HandleAt_stays (Below.drew (Below.refl _ _))
      obtain ⟨q0, q1⟩ := hcell_at hL.out j hlt
      refine wp_region_held_drew (S := fun w' => w'.cell? ⟨BB, 0, none⟩ = some (.slice pb y.vSlots.length db) ∧ w'.cell? ⟨BB, 1, none⟩ = some (.slice qb y.vFree.length eb) ∧ w'.cell? ⟨b, off + j * 2, none⟩ = some (.int .i64 hl[j].vAt) ∧ w'.cell? ⟨b, off + j * 2 + 1, none⟩ = some (.int .i64 hl[j].vGen)) (by kernel_rfl) ⟨bB.out.cell 0 rfl, bB.out.cell 1 rfl, q0, q1⟩ (fun hHeld => ?_)
      refine tq (i := 0) (d := 82) ?_
      simp only [sz, ss]
      refine tq (i := 1) (d := 83) ?_
      simp only [sz, ss]
      refine tq (i := 2) (d := 84) ?_
      simp only [sz, ss]
      refine tq (i := 3) (d := 85) ?_
      simp only [sz, ss]
      refine tq (i := 4) (d := 86) ?_
      simp only [sz, ss]
      refine wpAnyH_ready (rs := [5]) (by kernel_rfl) (by simp) ?_
      refine AllReadyH.cons rfl (fun K hK => ?_) AllReadyH.nil
      go_simp
      refine (implDeref_any (by exact hAb.out)).mono ?_
      rintro e w1 ⟨rfl, hb1⟩
      replace hBel : Hid (Below w.heap.size w w1) := hBel.out.trans (Below.mono (hb1) hBel.out.size)
      replace hAx : Hid (ArenaAt w1 0 [.slice p0 x.vSlots.length d0, .slice p1 x.vFree.length d1] x) := ArenaAt_stays _ _ _ 0 _ _ (.of_below (hb1)) hAx.out
      replace bT : Hid (Box w1 BT [.slice p0 x.vSlots.length d0, .slice p1 x.vFree.length d1] 27) := bT.out.below (hb1) bT.out.lt
      replace bH : Hid (Box w1 (BT + 1) [.int .i64 hA, .int .i64 hX] 31) := bH.out.below (hb1) bH.out.lt
      replace hAb : Hid (ArenaAt w1 0 [.slice pb y.vSlots.length db, .slice qb y.vFree.length eb] y) := ArenaAt_stays _ _ _ 0 _ _ (.of_below (hb1)) hAb.out
      replace hoY : Hid (ArenaOwn w1 [.slice pb y.vSlots.length db, .slice qb y.vFree.length eb] y fY) := ArenaOwn_stays _ _ _ _ _ (fun b q => Below.block (hb1) b (ArenaOwn_lt _ _ _ _ hoY.out b q)) hoY.out
      replace bB : Hid (Box w1 BB [.slice pb y.vSlots.length db, .slice qb y.vFree.length eb] 27) := bB.out.below (hb1) bB.out.lt
      replace hAw : Hid (ArenaAt w1 0 [.slice pw y.vSlots.length dw, .slice qw y.vFree.length ew] y) := ArenaAt_stays _ _ _ 0 _ _ (.of_below (hb1)) hAw.out
      replace bW : Hid (Box w1 BW [.slice pw y.vSlots.length dw, .slice qw y.vFree.length ew] 27) := bW.out.below (hb1) bW.out.lt
      replace hL : Hid (SeqAt 2 HandleAt w1 0 (.slice (some ⟨b, off, none⟩) hl.length cl) hl) := hL.out.below HandleAt_stays (hb1)
      rw [hdN.out]
      refine hK.out _ _ ⟨cell_on hb1 hHeld.1, cell_on hb1 hHeld.2.1, cell_on hb1 hHeld.2.2.1, cell_on hb1 hHeld.2.2.2⟩ (fun hHeld => ?_)
      clear hK K
      refine tq (i := 6) (d := 81) ?_
      simp only [sz, ss]
      refine tq (i := 7) (d := 88) ?_
      simp only [sz, ss]
      refine tq (i := 8) (d := 89) ?_
      simp only [sz, ss]
      refine tq (i := 9) (d := 13) ?_
      simp only [sz, ss]
      refine tq (i := 10) (d := 14) ?_
      simp only [sz, ss]
      refine wpAnyH_done (by kernel_rfl) ?_ _
      clear q0 q1 hHeld
      go_wp2_with fail
      go_roundw
      case rel => exact ⟨j + 1, by omega, by go_num, hBel, hAx, bT, bH, hAb, hoY, bB, hAw, bW, hL⟩
      case measure => simp [intOf]; omega
    have hlt' : ¬ (j : Int) < (hl.length : Int) := by omega
    clear hlt hj
    have bBc0 := bB.out.cell 0 rfl
    have bBc1 := bB.out.cell 1 rfl
    have hK0 : Hid (Below wr.heap.size wr (wr.alloc (.cells #[.slice pb y.vSlots.length db, .slice qb y.vFree.length eb] 27))) := (Below.refl _ _).alloc (Nat.le_refl _) _
    have bN0 : Hid (Box (wr.alloc (.cells #[.slice pb y.vSlots.length db, .slice qb y.vFree.length eb] 27)) wr.heap.size [.slice pb y.vSlots.length db, .slice qb y.vFree.length eb] 27) := Box.new wr _ _
    have hz0 : Hid (∃ fs, ArenaOwn (wr.alloc (.cells #[.slice pb y.vSlots.length db, .slice qb y.vFree.length eb] 27)) [.slice pb y.vSlots.length db, .slice qb y.vFree.length eb] y fs ∧ ∀ b ∈ fs, b ≠ wr.heap.size) := ⟨fY, ArenaOwn_stays _ _ _ _ _ (fun b q => hK0.out.block b (ArenaOwn_lt _ _ _ _ hoY.out b q)) hoY.out, fun b q e => by have := ArenaOwn_lt _ _ _ _ hoY.out b q; omega⟩
    have ltB : BT + 1 < wr.heap.size := bH.out.lt
    go_wp2_with fail
    clear bBc0 bBc1
    generalize (wr.alloc (.cells #[.slice pb y.vSlots.length db, .slice qb y.vFree.length eb] 27)) = wS at *
    generalize wr = wB at *
    go_loopw [16] (fun i wr => ∃ (m : Nat) (pz : Option Addr) (dz : Nat) (qz : Option Addr) (ez : Nat) (z : ArenaD), m ≤ 13 ∧ i = .int .i64 m ∧ Hid (Below wB.heap.size wB wr) ∧ Hid (Box wr wB.heap.size [.slice pz z.vSlots.length dz, .slice qz z.vFree.length ez] 27) ∧ Hid (∃ fs, ArenaOwn wr [.slice pz z.vSlots.length dz, .slice qz z.vFree.length ez] z fs ∧ ∀ b ∈ fs, b ≠ wB.heap.size) ∧ Hid (Dead z hA hX)) (fun i _ => 13 - (intOf i).toNat)
    case atStart => exact ⟨0, pb, db, qb, eb, y, by omega, rfl, hK0, bN0, hz0, hdead⟩
    case round =>
      clear hK0 bN0 hz0
      obtain ⟨m, pz, dz, qz, ez, z, hm, rfl, hK, bN, hz, hd⟩ := hrel
      by_cases hm2 : m ≤ 12
      rotate_left
      · have hm3 : ¬ (m : Int) ≤ 12 := by omega
        have yb0 := (bB.out.below hK.out bB.out.lt).cell 0 rfl
        have yb1 := (bB.out.below hK.out bB.out.lt).cell 1 rfl
        go_wp2_with fail
        refine (implArenaOk_any (ArenaAt_stays _ _ _ 0 _ _ (.of_below hK.out) hAb.out)).mono ?_
        rintro e f1 ⟨rfl, hf1⟩
        rw [hrgt.out]
        have hKf : Hid (Below wB.heap.size wB f1) := Below.trans hK.out (hf1.mono (Below.size hK.out))
        clear hf1 yb0 yb1
        have ya0 := (bT.out.below hKf.out bT.out.lt).cell 0 rfl
        have ya1 := (bT.out.below hKf.out bT.out.lt).cell 1 rfl
        go_wp2_with fail
        refine (implHandlesOf_any (ArenaAt_stays _ _ _ 0 _ _ (.of_below hKf.out) hAx.out)).mono ?_
        rintro e f2 ⟨⟨kf, ff, rfl, ownF, _, _⟩, hf2⟩
        obtain ⟨af, cf, rfl⟩ := ownF.form
        rw [hcnt.out]
        have hwl : IntKind.i64.wrap (((hl.length + 1 : Nat) : Int) - 1) = (hl.length : Int) := by rw [IntKind.wrap_i64]; omega
        have hwl2 : IntKind.i64.wrap (hl.length : Int) = (hl.length : Int) := by rw [IntKind.wrap_i64]; omega
        clear ownF ya0 ya1
        go_wp2_with fail
        go_ret
        exact ⟨by first | rfl | simp, hBel.out.trans (Below.mono (hKf.out.trans (hf2.mono hKf.out.size)) hBel.out.size)⟩
      have hm3 : (m : Int) ≤ 12 := by omega
      obtain ⟨fz, hoz, hfz⟩ := hz.out
      have haz := ArenaOwn_at (lo := 0) _ _ _ _ hoz (fun _ _ => Nat.zero_le _)
      have hoz' := toHid hoz
      have hfz' := toHid hfz
      have haz' := toHid haz
      clear hoz hfz haz hz
      have n0 := bN.out.cell 0 rfl
      have n1 := bN.out.cell 1 rfl
      have hh0 := (bH.out.below hK.out bH.out.lt).cell 0 rfl
      have hh1 := (bH.out.below hK.out bH.out.lt).cell 1 rfl
      go_wp2_with fail
      refine (implDeref_any haz'.out).mono ?_
      rintro e u1 ⟨rfl, hb1⟩
      rw [derefD_no (liveB_false hd.out.not)]
      dsimp only
      have hK1 : Hid (Below wB.heap.size wB u1) := hK.out.trans (hb1.mono hK.out.size)
      have bN1 : Hid (Box u1 wB.heap.size [.slice pz z.vSlots.length dz, .slice qz z.vFree.length ez] 27) := bN.out.below hb1 bN.out.lt
      have ha1 : Hid (ArenaAt u1 0 [.slice pz z.vSlots.length dz, .slice qz z.vFree.length ez] z) := ArenaAt_stays _ _ _ 0 _ _ (.of_below hb1) haz'.out
      clear hb1 n0 n1 hh0 hh1
      have n0 := bN1.out.cell 0 rfl
      have n1 := bN1.out.cell 1 rfl
      have hh0 := (bH.out.below hK1.out bH.out.lt).cell 0 rfl
      have hh1 := (bH.out.below hK1.out bH.out.lt).cell 1 rfl
      go_wp2_with fail
      refine (implReleased_any ha1.out).mono ?_
      rintro e u2 ⟨⟨csR, rfl, hans⟩, hb2⟩
      rw [releasedD_dead (liveB_false hd.out.not)] at hans ⊢
      dsimp only at hans ⊢
      obtain ⟨pr, dr, qr, er, rfl, _⟩ := ansA_at hans
      have hbR : Below u1.heap.size u1 (u2.alloc (.cells #[.slice pr nilA.vSlots.length dr, .slice qr nilA.vFree.length er] 27)) := hb2.alloc hb2.size _
      have hK2 : Hid (Below wB.heap.size wB (u2.alloc (.cells #[.slice pr nilA.vSlots.length dr, .slice qr nilA.vFree.length er] 27))) := hK1.out.trans (hbR.mono hK1.out.size)
      have bN2 : Hid (Box (u2.alloc (.cells #[.slice pr nilA.vSlots.length dr, .slice qr nilA.vFree.length er] 27)) wB.heap.size [.slice pz z.vSlots.length dz, .slice qz z.vFree.length ez] 27) := bN1.out.below hbR bN1.out.lt
      have ha2 : Hid (ArenaAt (u2.alloc (.cells #[.slice pr nilA.vSlots.length dr, .slice qr nilA.vFree.length er] 27)) 0 [.slice pz z.vSlots.length dz, .slice qz z.vFree.length ez] z) := ArenaAt_stays _ _ _ 0 _ _ (.of_below hbR) ha1.out
      clear hb2 hbR n0 n1 hh0 hh1 hans
      have n0 := bN2.out.cell 0 rfl
      have n1 := bN2.out.cell 1 rfl
      go_wp2_with fail
      clear n0 n1
      generalize (u2.alloc (.cells #[.slice pr nilA.vSlots.length dr, .slice qr nilA.vFree.length er] 27)) = u3 at *
      refine (implAllocated_any ha2.out (show ByteArray.size ⟨#[110]⟩ ≤ maxLen by decide)).mono ?_
      rintro e u4 ⟨⟨csN, rfl, hans⟩, hb4⟩
      generalize hal0 : allocD z ⟨#[110]⟩ = r at hans ⊢
      have hal := toHid hal0
      clear hal0
      obtain ⟨z2, hp2, hs2, fine⟩ := r
      dsimp only at hans ⊢
      obtain ⟨pn, dn, qn, en, rfl, _⟩ := ansA_at hans
      obtain ⟨fn, hon0, _, hlon0⟩ := hans
      have hbB : Below u4.heap.size u4 ((u4.alloc (.cells #[.slice pn z2.vSlots.length dn, .slice qn z2.vFree.length en] 27)).alloc (.cells #[.int .i64 hp2, .int .i64 hs2] 31)) := ((Below.refl _ _).alloc (Nat.le_refl _) _).alloc (by simp) _
      have hK3 : Hid (Below wB.heap.size wB ((u4.alloc (.cells #[.slice pn z2.vSlots.length dn, .slice qn z2.vFree.length en] 27)).alloc (.cells #[.int .i64 hp2, .int .i64 hs2] 31))) := (hK2.out.trans (hb4.mono hK2.out.size)).trans (hbB.mono (hK2.out.trans (hb4.mono hK2.out.size)).size)
      have bN3 : Hid (Box ((u4.alloc (.cells #[.slice pn z2.vSlots.length dn, .slice qn z2.vFree.length en] 27)).alloc (.cells #[.int .i64 hp2, .int .i64 hs2] 31)) wB.heap.size [.slice pz z.vSlots.length dz, .slice qz z.vFree.length ez] 27) := (bN2.out.below hb4 bN2.out.lt).below hbB (bN2.out.below hb4 bN2.out.lt).lt
      have bX3 : Hid (Box ((u4.alloc (.cells #[.slice pn z2.vSlots.length dn, .slice qn z2.vFree.length en] 27)).alloc (.cells #[.int .i64 hp2, .int .i64 hs2] 31)) u4.heap.size [.slice pn z2.vSlots.length dn, .slice qn z2.vFree.length en] 27) := (Box.new u4 _ _).alloc _
      have ltN2 := bN2.out.lt
      have sz4 := hb4.size
      have hon : Hid (ArenaOwn ((u4.alloc (.cells #[.slice pn z2.vSlots.length dn, .slice qn z2.vFree.length en] 27)).alloc (.cells #[.int .i64 hp2, .int .i64 hs2] 31)) [.slice pn z2.vSlots.length dn, .slice qn z2.vFree.length en] z2 fn) := ArenaOwn_stays _ _ _ _ _ (fun b q => hbB.block b (ArenaOwn_lt _ _ _ _ hon0 b q)) hon0
      have hlon : Hid (∀ b ∈ fn, b ≠ wB.heap.size) := fun b q e => by have := hlon0 b q; omega
      have hXN : u4.heap.size ≠ wB.heap.size := by omega
      clear hbB hon0 hlon0 hb4
      cases fine
      · skip
        have yb0 := (bB.out.below hK3.out bB.out.lt).cell 0 rfl
        have yb1 := (bB.out.below hK3.out bB.out.lt).cell 1 rfl
        go_wp2_with fail
        refine (implArenaOk_any (ArenaAt_stays _ _ _ 0 _ _ (.of_below hK3.out) hAb.out)).mono ?_
        rintro e f1 ⟨rfl, hf1⟩
        rw [hrgt.out]
        have hKf : Hid (Below wB.heap.size wB f1) := Below.trans hK3.out (hf1.mono (Below.size hK3.out))
        clear hf1 yb0 yb1
        have ya0 := (bT.out.below hKf.out bT.out.lt).cell 0 rfl
        have ya1 := (bT.out.below hKf.out bT.out.lt).cell 1 rfl
        go_wp2_with fail
        refine (implHandlesOf_any (ArenaAt_stays _ _ _ 0 _ _ (.of_below hKf.out) hAx.out)).mono ?_
        rintro e f2 ⟨⟨kf, ff, rfl, ownF, _, _⟩, hf2⟩
        obtain ⟨af, cf, rfl⟩ := ownF.form
        rw [hcnt.out]
        have hwl : IntKind.i64.wrap (((hl.length + 1 : Nat) : Int) - 1) = (hl.length : Int) := by rw [IntKind.wrap_i64]; omega
        have hwl2 : IntKind.i64.wrap (hl.length : Int) = (hl.length : Int) := by rw [IntKind.wrap_i64]; omega
        clear ownF ya0 ya1
        go_wp2_with fail
        go_ret
        exact ⟨by first | rfl | simp, hBel.out.trans (Below.mono (hKf.out.trans (hf2.mono hKf.out.size)) hBel.out.size)⟩
      have x0 := bX3.out.cell 0 rfl
      have x1 := bX3.out.cell 1 rfl
      have n0 := bN3.out.cell 0 rfl
      have n1 := bN3.out.cell 1 rfl
      have nu := bN3.out.unfrozen
      go_wp2_with fail
      go_roundw
      case rel => exact ⟨m + 1, pn, dn, qn, en, z2, by omega, by go_num, (hK3.out.setCell (p := ⟨wB.heap.size, 0, none⟩) (Nat.le_refl _) _).setCell (p := ⟨wB.heap.size, 1, none⟩) (Nat.le_refl _) _, (Box.set (i := 0) bN3.out _).set (i := 1) _, ⟨fn, ArenaOwn_stays _ _ _ _ _ (fun b q => by rw [set_other (hlon.out b q), set_other (hlon.out b q)]) hon.out, hlon.out⟩, dead_alloc hd.out hal.out⟩
      case measure => simp [intOf]; omega
end Go.Proofs.Ytcbomaflfjdmjaa
