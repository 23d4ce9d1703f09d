/- FnStored: walked. -/
import Derived.Test.YtcbomaflfjdmjaaArDrawsTwo
import Derived.Test.YtcbomaflfjdmjaaArSame
import Derived.Test.YtcbomaflfjdmjaaArnSame
import Derived.Test.YtcbomaflfjdmjaaArStoreP
import Derived.Test.YtcbomaflfjdmjaaArStore
import Derived.Test.YtcbomaflfjdmjaaArHandles
import Derived.Test.YtcbomaflfjdmjaaTakeLit
namespace Go.Proofs.Ytcbomaflfjdmjaa
open Go.RowKit Go.Deep
theorem ansA_at {w w' : World} {cs : List Value} {x : ArenaD} (h : AnsA w w' cs x) : ∃ p d q e, cs = [.slice p x.vSlots.length d, .slice q x.vFree.length e] ∧ ArenaAt w' 0 [.slice p x.vSlots.length d, .slice q x.vFree.length e] x := by
  obtain ⟨fs, ho, _, _⟩ := h
  have ha := ArenaOwn_at (lo := 0) _ _ _ _ ho (fun _ _ => Nat.zero_le _)
  obtain ⟨k0, k1, f0, f1, e, h0, h1, _⟩ := ho
  obtain ⟨p, d, rfl⟩ := h0.form
  obtain ⟨q, e2, rfl⟩ := h1.form
  rw [e] at ha
  exact ⟨p, d, q, e2, e, ha⟩
theorem hcell_at {w : World} {b off cl : Nat} {hl : List HandleD} {n : Nat} (h : SeqAt 2 HandleAt w 0 (.slice (some ⟨b, off, none⟩) n cl) hl) (j : Nat) (hj : j < hl.length) : w.cell? ⟨b, off + j * 2, none⟩ = some (.int .i64 hl[j].vAt) ∧ w.cell? ⟨b, off + j * 2 + 1, none⟩ = some (.int .i64 hl[j].vGen) := by
  obtain ⟨a', c', e, _, hx⟩ := h
  injection e with e1 e2 e3
  obtain ⟨b', off', e4, _, _, hc⟩ := hx (by omega)
  rw [e4] at e1
  injection e1 with e1
  injection e1 with e5 e6
  subst e5 e6
  obtain ⟨cs, _, lie, e, _⟩ := hc j hj
  subst e
  have z0 := lie 0 (by simp)
  have z1 := lie 1 (by simp)
  simp only [List.getElem?_cons_zero, List.getElem?_cons_succ, Nat.add_zero] at z0 z1
  exact ⟨z0, z1⟩
set_option maxRecDepth 100000 in
set_option maxHeartbeats 8000000 in
theorem fnStored.walk {a : Option Addr} {n cap : Nat} (w : World) (_ : n ≤ maxLen) (hcode : n ≤ 1048576 → CodeAt w a n) :
    Calls Try.prog 5 #[.slice a n cap] w fun e w' => e = .returned (.bool true) ∧ Below w.heap.size w w' := by
  by_cases hbig : (1048576 : Int) < (n : Int)
  · go_enter Try.func5, Try.ntmps5
    go_wp2_with (go_at_call 7; refine (big_any _).mono ?_; rintro e w' ⟨rfl, rfl⟩; rw [decide_eq_true hbig])
    go_ret
    exact ⟨rfl, Below.refl _ _⟩
  have h' : Hid (CodeAt w a n) := hcode (by omega)
  clear hcode
  go_enter Try.func5, Try.ntmps5
  go_wp2_with (go_at_call 7; refine (big_any _).mono ?_; rintro e w' ⟨rfl, e9⟩; have e10 := e9.symm; clear e9; subst e10; rw [decide_eq_false hbig])
  have hBel : Hid (Below w.heap.size w w) := Below.refl _ _
  refine (drawStored_any h'.out).mono ?_
  rintro e w1 ⟨⟨k0, k1, x, hA, hX, tg, rfl, ho, htg0⟩, hb1⟩
  obtain ⟨p0, d0, p1, d1, rfl, rfl⟩ := ho.form
  have htg : Hid (tg.size ≤ maxLen) := htg0
  replace hBel : Hid (Below w.heap.size w w1) := hBel.out.trans (Below.mono (hb1) hBel.out.size)
  have hAx : Hid (ArenaAt w1 0 [.slice p0 x.vSlots.length d0, .slice p1 x.vFree.length d1] x) := ho.at
  clear ho hb1 h' hbig htg0
  have hbA : Below w1.heap.size w1 ((w1.alloc (.cells #[.slice p0 x.vSlots.length d0, .slice p1 x.vFree.length d1] 27)).alloc (.cells #[.int .i64 hA, .int .i64 hX] 31)) := ((Below.refl _ _).alloc (Nat.le_refl _) _).alloc (by simp) _
  replace hBel : Hid (Below w.heap.size w ((w1.alloc (.cells #[.slice p0 x.vSlots.length d0, .slice p1 x.vFree.length d1] 27)).alloc (.cells #[.int .i64 hA, .int .i64 hX] 31))) := hBel.out.trans (Below.mono (hbA) hBel.out.size)
  replace hAx : Hid (ArenaAt ((w1.alloc (.cells #[.slice p0 x.vSlots.length d0, .slice p1 x.vFree.length d1] 27)).alloc (.cells #[.int .i64 hA, .int .i64 hX] 31)) 0 [.slice p0 x.vSlots.length d0, .slice p1 x.vFree.length d1] x) := ArenaAt_stays _ _ _ 0 _ _ (.of_below (hbA)) hAx.out
  have bT : Hid (Box ((w1.alloc (.cells #[.slice p0 x.vSlots.length d0, .slice p1 x.vFree.length d1] 27)).alloc (.cells #[.int .i64 hA, .int .i64 hX] 31)) w1.heap.size [.slice p0 x.vSlots.length d0, .slice p1 x.vFree.length d1] 27) := (Box.new w1 _ _).alloc _
  have bH : Hid (Box ((w1.alloc (.cells #[.slice p0 x.vSlots.length d0, .slice p1 x.vFree.length d1] 27)).alloc (.cells #[.int .i64 hA, .int .i64 hX] 31)) (w1.heap.size + 1) [.int .i64 hA, .int .i64 hX] 31) := by have z := Box.new (w1.alloc (.cells #[.slice p0 x.vSlots.length d0, .slice p1 x.vFree.length d1] 27)) [.int .i64 hA, .int .i64 hX] 31; simpa [Hid] using z
  clear hbA
  go_wp2_with fail
  generalize ((w1.alloc (.cells #[.slice p0 x.vSlots.length d0, .slice p1 x.vFree.length d1] 27)).alloc (.cells #[.int .i64 hA, .int .i64 hX] 31)) = w2 at *
  generalize w1.heap.size = BT at *
  refine (implStored_any hAx.out htg.out).mono ?_
  rintro e w3 ⟨⟨csB, rfl, hans⟩, hb3⟩
  generalize hst0 : storedD x hA hX tg = r at hans ⊢
  have hst : Hid (storedD x hA hX tg = r) := hst0
  clear hst0
  obtain ⟨y, is⟩ := r
  dsimp only at hans ⊢
  obtain ⟨pb, db, qb, eb, rfl, hab⟩ := ansA_at hans
  replace hBel : Hid (Below w.heap.size w w3) := hBel.out.trans (Below.mono (hb3) hBel.out.size)
  replace hAx : Hid (ArenaAt w3 0 [.slice p0 x.vSlots.length d0, .slice p1 x.vFree.length d1] x) := ArenaAt_stays _ _ _ 0 _ _ (.of_below (hb3)) hAx.out
  replace bT : Hid (Box w3 BT [.slice p0 x.vSlots.length d0, .slice p1 x.vFree.length d1] 27) := bT.out.below (hb3) bT.out.lt
  replace bH : Hid (Box w3 (BT + 1) [.int .i64 hA, .int .i64 hX] 31) := bH.out.below (hb3) bH.out.lt
  have hAb : Hid (ArenaAt w3 0 [.slice pb y.vSlots.length db, .slice qb y.vFree.length eb] y) := hab
  clear hans hab hb3
  have hbA : Below w3.heap.size w3 (w3.alloc (.cells #[.slice pb y.vSlots.length db, .slice qb y.vFree.length eb] 27)) := (Below.refl _ _).alloc (Nat.le_refl _) _
  replace hBel : Hid (Below w.heap.size w (w3.alloc (.cells #[.slice pb y.vSlots.length db, .slice qb y.vFree.length eb] 27))) := hBel.out.trans (Below.mono (hbA) hBel.out.size)
  replace hAx : Hid (ArenaAt (w3.alloc (.cells #[.slice pb y.vSlots.length db, .slice qb y.vFree.length eb] 27)) 0 [.slice p0 x.vSlots.length d0, .slice p1 x.vFree.length d1] x) := ArenaAt_stays _ _ _ 0 _ _ (.of_below (hbA)) hAx.out
  replace bT : Hid (Box (w3.alloc (.cells #[.slice pb y.vSlots.length db, .slice qb y.vFree.length eb] 27)) BT [.slice p0 x.vSlots.length d0, .slice p1 x.vFree.length d1] 27) := bT.out.below (hbA) bT.out.lt
  replace bH : Hid (Box (w3.alloc (.cells #[.slice pb y.vSlots.length db, .slice qb y.vFree.length eb] 27)) (BT + 1) [.int .i64 hA, .int .i64 hX] 31) := bH.out.below (hbA) bH.out.lt
  replace hAb : Hid (ArenaAt (w3.alloc (.cells #[.slice pb y.vSlots.length db, .slice qb y.vFree.length eb] 27)) 0 [.slice pb y.vSlots.length db, .slice qb y.vFree.length eb] y) := ArenaAt_stays _ _ _ 0 _ _ (.of_below (hbA)) hAb.out
  have bB : Hid (Box (w3.alloc (.cells #[.slice pb y.vSlots.length db, .slice qb y.vFree.length eb] 27)) w3.heap.size [.slice pb y.vSlots.length db, .slice qb y.vFree.length eb] 27) := Box.new w3 _ _
  clear hbA
  have bTc0 := bT.out.cell 0 rfl
  have bTc1 := bT.out.cell 1 rfl
  have bHc0 := bH.out.cell 0 rfl
  have bHc1 := bH.out.cell 1 rfl
  go_wp2_with fail
  clear bTc0 bTc1 bHc0 bHc1
  generalize (w3.alloc (.cells #[.slice pb y.vSlots.length db, .slice qb y.vFree.length eb] 27)) = w4 at *
  generalize w3.heap.size = BB at *
  refine (specStored_any hAx.out htg.out).mono ?_
  rintro e w5 ⟨⟨csW, rfl, hans⟩, hb5⟩
  rw [hst.out] at hans ⊢
  dsimp only at hans ⊢
  obtain ⟨pw, dw, qw, ew, rfl, haw⟩ := ansA_at hans
  replace hBel : Hid (Below w.heap.size w w5) := hBel.out.trans (Below.mono (hb5) hBel.out.size)
  replace hAx : Hid (ArenaAt w5 0 [.slice p0 x.vSlots.length d0, .slice p1 x.vFree.length d1] x) := ArenaAt_stays _ _ _ 0 _ _ (.of_below (hb5)) hAx.out
  replace bT : Hid (Box w5 BT [.slice p0 x.vSlots.length d0, .slice p1 x.vFree.length d1] 27) := bT.out.below (hb5) bT.out.lt
  replace bH : Hid (Box w5 (BT + 1) [.int .i64 hA, .int .i64 hX] 31) := bH.out.below (hb5) bH.out.lt
  replace hAb : Hid (ArenaAt w5 0 [.slice pb y.vSlots.length db, .slice qb y.vFree.length eb] y) := ArenaAt_stays _ _ _ 0 _ _ (.of_below (hb5)) hAb.out
  replace bB : Hid (Box w5 BB [.slice pb y.vSlots.length db, .slice qb y.vFree.length eb] 27) := bB.out.below (hb5) bB.out.lt
  have hAw : Hid (ArenaAt w5 0 [.slice pw y.vSlots.length dw, .slice qw y.vFree.length ew] y) := haw
  clear hans haw hb5
  have hbA : Below w5.heap.size w5 (w5.alloc (.cells #[.slice pw y.vSlots.length dw, .slice qw y.vFree.length ew] 27)) := (Below.refl _ _).alloc (Nat.le_refl _) _
  replace hBel : Hid (Below w.heap.size w (w5.alloc (.cells #[.slice pw y.vSlots.length dw, .slice qw y.vFree.length ew] 27))) := hBel.out.trans (Below.mono (hbA) hBel.out.size)
  replace hAx : Hid (ArenaAt (w5.alloc (.cells #[.slice pw y.vSlots.length dw, .slice qw y.vFree.length ew] 27)) 0 [.slice p0 x.vSlots.length d0, .slice p1 x.vFree.length d1] x) := ArenaAt_stays _ _ _ 0 _ _ (.of_below (hbA)) hAx.out
  replace bT : Hid (Box (w5.alloc (.cells #[.slice pw y.vSlots.length dw, .slice qw y.vFree.length ew] 27)) BT [.slice p0 x.vSlots.length d0, .slice p1 x.vFree.length d1] 27) := bT.out.below (hbA) bT.out.lt
  replace bH : Hid (Box (w5.alloc (.cells #[.slice pw y.vSlots.length dw, .slice qw y.vFree.length ew] 27)) (BT + 1) [.int .i64 hA, .int .i64 hX] 31) := bH.out.below (hbA) bH.out.lt
  replace hAb : Hid (ArenaAt (w5.alloc (.cells #[.slice pw y.vSlots.length dw, .slice qw y.vFree.length ew] 27)) 0 [.slice pb y.vSlots.length db, .slice qb y.vFree.length eb] y) := ArenaAt_stays _ _ _ 0 _ _ (.of_below (hbA)) hAb.out
  replace bB : Hid (Box (w5.alloc (.cells #[.slice pw y.vSlots.length dw, .slice qw y.vFree.length ew] 27)) BB [.slice pb y.vSlots.length db, .slice qb y.vFree.length eb] 27) := bB.out.below (hbA) bB.out.lt
  replace hAw : Hid (ArenaAt (w5.alloc (.cells #[.slice pw y.vSlots.length dw, .slice qw y.vFree.length ew] 27)) 0 [.slice pw y.vSlots.length dw, .slice qw y.vFree.length ew] y) := ArenaAt_stays _ _ _ 0 _ _ (.of_below (hbA)) hAw.out
  have bW : Hid (Box (w5.alloc (.cells #[.slice pw y.vSlots.length dw, .slice qw y.vFree.length ew] 27)) w5.heap.size [.slice pw y.vSlots.length dw, .slice qw y.vFree.length ew] 27) := Box.new w5 _ _
  clear hbA
  have bTc0 := bT.out.cell 0 rfl
  have bTc1 := bT.out.cell 1 rfl
  have bHc0 := bH.out.cell 0 rfl
  have bHc1 := bH.out.cell 1 rfl
  go_wp2_with fail
  clear bTc0 bTc1 bHc0 bHc1
  generalize (w5.alloc (.cells #[.slice pw y.vSlots.length dw, .slice qw y.vFree.length ew] 27)) = w6 at *
  generalize w5.heap.size = BW at *
  refine (implDeref_any hAx.out).mono ?_
  rintro e w7 ⟨rfl, hb7⟩
  generalize hdr0 : derefD x hA hX = dr
  have hdr : Hid (derefD x hA hX = dr) := hdr0
  clear hdr0
  obtain ⟨ds, db2⟩ := dr
  dsimp only
  replace hBel : Hid (Below w.heap.size w w7) := hBel.out.trans (Below.mono (hb7) hBel.out.size)
  replace hAx : Hid (ArenaAt w7 0 [.slice p0 x.vSlots.length d0, .slice p1 x.vFree.length d1] x) := ArenaAt_stays _ _ _ 0 _ _ (.of_below (hb7)) hAx.out
  replace bT : Hid (Box w7 BT [.slice p0 x.vSlots.length d0, .slice p1 x.vFree.length d1] 27) := bT.out.below (hb7) bT.out.lt
  replace bH : Hid (Box w7 (BT + 1) [.int .i64 hA, .int .i64 hX] 31) := bH.out.below (hb7) bH.out.lt
  replace hAb : Hid (ArenaAt w7 0 [.slice pb y.vSlots.length db, .slice qb y.vFree.length eb] y) := ArenaAt_stays _ _ _ 0 _ _ (.of_below (hb7)) hAb.out
  replace bB : Hid (Box w7 BB [.slice pb y.vSlots.length db, .slice qb y.vFree.length eb] 27) := bB.out.below (hb7) bB.out.lt
  replace hAw : Hid (ArenaAt w7 0 [.slice pw y.vSlots.length dw, .slice qw y.vFree.length ew] y) := ArenaAt_stays _ _ _ 0 _ _ (.of_below (hb7)) hAw.out
  replace bW : Hid (Box w7 BW [.slice pw y.vSlots.length dw, .slice qw y.vFree.length ew] 27) := bW.out.below (hb7) bW.out.lt
  clear hb7
  have bTc0 := bT.out.cell 0 rfl
  have bTc1 := bT.out.cell 1 rfl
  have bHc0 := bH.out.cell 0 rfl
  have bHc1 := bH.out.cell 1 rfl
  go_wp2_with fail
  clear bTc0 bTc1 bHc0 bHc1
  refine (specDeref_any hAx.out).mono ?_
  rintro e w8 ⟨rfl, hb8⟩
  rw [hdr.out]
  dsimp only
  replace hBel : Hid (Below w.heap.size w w8) := hBel.out.trans (Below.mono (hb8) hBel.out.size)
  replace hAx : Hid (ArenaAt w8 0 [.slice p0 x.vSlots.length d0, .slice p1 x.vFree.length d1] x) := ArenaAt_stays _ _ _ 0 _ _ (.of_below (hb8)) hAx.out
  replace bT : Hid (Box w8 BT [.slice p0 x.vSlots.length d0, .slice p1 x.vFree.length d1] 27) := bT.out.below (hb8) bT.out.lt
  replace bH : Hid (Box w8 (BT + 1) [.int .i64 hA, .int .i64 hX] 31) := bH.out.below (hb8) bH.out.lt
  replace hAb : Hid (ArenaAt w8 0 [.slice pb y.vSlots.length db, .slice qb y.vFree.length eb] y) := ArenaAt_stays _ _ _ 0 _ _ (.of_below (hb8)) hAb.out
  replace bB : Hid (Box w8 BB [.slice pb y.vSlots.length db, .slice qb y.vFree.length eb] 27) := bB.out.below (hb8) bB.out.lt
  replace hAw : Hid (ArenaAt w8 0 [.slice pw y.vSlots.length dw, .slice qw y.vFree.length ew] y) := ArenaAt_stays _ _ _ 0 _ _ (.of_below (hb8)) hAw.out
  replace bW : Hid (Box w8 BW [.slice pw y.vSlots.length dw, .slice qw y.vFree.length ew] 27) := bW.out.below (hb8) bW.out.lt
  clear hb8
  have bBc0 := bB.out.cell 0 rfl
  have bBc1 := bB.out.cell 1 rfl
  have bWc0 := bW.out.cell 0 rfl
  have bWc1 := bW.out.cell 1 rfl
  go_wp2_with fail
  clear bBc0 bBc1 bWc0 bWc1
  refine (sameArena_any hAb.out hAw.out).mono ?_
  rintro e w9 ⟨rfl, hb9⟩
  replace hBel : Hid (Below w.heap.size w w9) := hBel.out.trans (Below.mono (hb9) hBel.out.size)
  replace hAx : Hid (ArenaAt w9 0 [.slice p0 x.vSlots.length d0, .slice p1 x.vFree.length d1] x) := ArenaAt_stays _ _ _ 0 _ _ (.of_below (hb9)) hAx.out
  replace bT : Hid (Box w9 BT [.slice p0 x.vSlots.length d0, .slice p1 x.vFree.length d1] 27) := bT.out.below (hb9) bT.out.lt
  replace bH : Hid (Box w9 (BT + 1) [.int .i64 hA, .int .i64 hX] 31) := bH.out.below (hb9) bH.out.lt
  replace hAb : Hid (ArenaAt w9 0 [.slice pb y.vSlots.length db, .slice qb y.vFree.length eb] y) := ArenaAt_stays _ _ _ 0 _ _ (.of_below (hb9)) hAb.out
  replace bB : Hid (Box w9 BB [.slice pb y.vSlots.length db, .slice qb y.vFree.length eb] 27) := bB.out.below (hb9) bB.out.lt
  replace hAw : Hid (ArenaAt w9 0 [.slice pw y.vSlots.length dw, .slice qw y.vFree.length ew] y) := ArenaAt_stays _ _ _ 0 _ _ (.of_below (hb9)) hAw.out
  replace bW : Hid (Box w9 BW [.slice pw y.vSlots.length dw, .slice qw y.vFree.length ew] 27) := bW.out.below (hb9) bW.out.lt
  clear hb9
  cases is
  · skip
    have bBc0 := bB.out.cell 0 rfl
    have bBc1 := bB.out.cell 1 rfl
    have bWc0 := bW.out.cell 0 rfl
    have bWc1 := bW.out.cell 1 rfl
    go_wp2_with fail
    clear bBc0 bBc1 bWc0 bWc1
    refine (sameArena_any hAb.out hAw.out).mono ?_
    rintro e w10 ⟨rfl, hb10⟩
    replace hBel : Hid (Below w.heap.size w w10) := hBel.out.trans (Below.mono (hb10) hBel.out.size)
    replace hAx : Hid (ArenaAt w10 0 [.slice p0 x.vSlots.length d0, .slice p1 x.vFree.length d1] x) := ArenaAt_stays _ _ _ 0 _ _ (.of_below (hb10)) hAx.out
    replace bT : Hid (Box w10 BT [.slice p0 x.vSlots.length d0, .slice p1 x.vFree.length d1] 27) := bT.out.below (hb10) bT.out.lt
    replace bH : Hid (Box w10 (BT + 1) [.int .i64 hA, .int .i64 hX] 31) := bH.out.below (hb10) bH.out.lt
    replace hAb : Hid (ArenaAt w10 0 [.slice pb y.vSlots.length db, .slice qb y.vFree.length eb] y) := ArenaAt_stays _ _ _ 0 _ _ (.of_below (hb10)) hAb.out
    replace bB : Hid (Box w10 BB [.slice pb y.vSlots.length db, .slice qb y.vFree.length eb] 27) := bB.out.below (hb10) bB.out.lt
    replace hAw : Hid (ArenaAt w10 0 [.slice pw y.vSlots.length dw, .slice qw y.vFree.length ew] y) := ArenaAt_stays _ _ _ 0 _ _ (.of_below (hb10)) hAw.out
    replace bW : Hid (Box w10 BW [.slice pw y.vSlots.length dw, .slice qw y.vFree.length ew] 27) := bW.out.below (hb10) bW.out.lt
    clear hb10
    go_wp2_with fail
    go_ret
    exact ⟨rfl, hBel.out⟩
  obtain rfl : db2 = true := by have h1 := derefD_yes (liveB_true (stored_open hst.out).1) (stored_open hst.out).1.2.2.1; rw [hdr.out] at h1; injection h1
  obtain ⟨hl, ehl, hfew, hdA, hdB, hrgt, hhd⟩ : ∃ hl, handlesD x = hl ∧ hl.length ≤ 12 ∧ Hid (∀ j, (hj : j < hl.length) → derefD x hl[j].vAt hl[j].vGen = ((derefD x hl[j].vAt hl[j].vGen).1, true)) ∧ Hid (∀ j, (hj : j < hl.length) → ∃ vy, derefD y hl[j].vAt hl[j].vGen = (vy, true) ∧ (hl[j].vAt = hA ∧ hl[j].vGen = hX → vy = tg) ∧ (¬ (hl[j].vAt = hA ∧ hl[j].vGen = hX) → vy = (derefD x hl[j].vAt hl[j].vGen).1)) ∧ Hid (rightB y = true) ∧ Hid (handlesD y = hl) :=
    ⟨handlesD x, rfl, handlesD_few x, fun j hj => by have := liveB_true (live_handle hj); unfold derefD; rw [this]; rfl, fun j hj => ⟨_, stored_deref hst.out (live_handle hj), fun h => if_pos h, fun h => if_neg h⟩, rightB_true (stored_right hst.out), stored_handles hst.out⟩
  have ehl' : Hid (handlesD x = hl) := ehl
  clear ehl
  have bTc0 := bT.out.cell 0 rfl
  have bTc1 := bT.out.cell 1 rfl
  go_wp2_with fail
  clear bTc0 bTc1
  refine (implHandlesOf_any hAx.out).mono ?_
  rintro e w10 ⟨⟨kl, fl, rfl, ownL, _, _⟩, hb10⟩
  rw [ehl'.out] at ownL
  obtain ⟨al, cl, rfl⟩ := ownL.form
  replace hBel : Hid (Below w.heap.size w w10) := hBel.out.trans (Below.mono (hb10) hBel.out.size)
  replace hAx : Hid (ArenaAt w10 0 [.slice p0 x.vSlots.length d0, .slice p1 x.vFree.length d1] x) := ArenaAt_stays _ _ _ 0 _ _ (.of_below (hb10)) hAx.out
  replace bT : Hid (Box w10 BT [.slice p0 x.vSlots.length d0, .slice p1 x.vFree.length d1] 27) := bT.out.below (hb10) bT.out.lt
  replace bH : Hid (Box w10 (BT + 1) [.int .i64 hA, .int .i64 hX] 31) := bH.out.below (hb10) bH.out.lt
  replace hAb : Hid (ArenaAt w10 0 [.slice pb y.vSlots.length db, .slice qb y.vFree.length eb] y) := ArenaAt_stays _ _ _ 0 _ _ (.of_below (hb10)) hAb.out
  replace bB : Hid (Box w10 BB [.slice pb y.vSlots.length db, .slice qb y.vFree.length eb] 27) := bB.out.below (hb10) bB.out.lt
  replace hAw : Hid (ArenaAt w10 0 [.slice pw y.vSlots.length dw, .slice qw y.vFree.length ew] y) := ArenaAt_stays _ _ _ 0 _ _ (.of_below (hb10)) hAw.out
  replace bW : Hid (Box w10 BW [.slice pw y.vSlots.length dw, .slice qw y.vFree.length ew] 27) := bW.out.below (hb10) bW.out.lt
  have hL : Hid (SeqAt 2 HandleAt w10 0 (.slice al hl.length cl) hl) := ownL.at HandleOwn_at (fun _ _ => Nat.zero_le _)
  clear hb10 ownL
  go_wp2_with fail
  go_loopw [15] (fun i wr => ∃ j : Nat, j ≤ hl.length ∧ i = .int .i64 j ∧ Hid (Below w.heap.size w wr) ∧ Hid (ArenaAt wr 0 [.slice p0 x.vSlots.length d0, .slice p1 x.vFree.length d1] x) ∧ Hid (Box wr BT [.slice p0 x.vSlots.length d0, .slice p1 x.vFree.length d1] 27) ∧ Hid (Box wr (BT + 1) [.int .i64 hA, .int .i64 hX] 31) ∧ Hid (ArenaAt wr 0 [.slice pb y.vSlots.length db, .slice qb y.vFree.length eb] y) ∧ Hid (Box wr BB [.slice pb y.vSlots.length db, .slice qb y.vFree.length eb] 27) ∧ Hid (ArenaAt wr 0 [.slice pw y.vSlots.length dw, .slice qw y.vFree.length ew] y) ∧ Hid (Box wr BW [.slice pw y.vSlots.length dw, .slice qw y.vFree.length ew] 27) ∧ Hid (SeqAt 2 HandleAt wr 0 (.slice al hl.length cl) hl)) (fun i _ => hl.length - (intOf i).toNat)
  case atStart => exact ⟨0, by omega, rfl, hBel, hAx, bT, bH, hAb, bB, hAw, bW, hL⟩
  case round =>
    clear hBel hAx bT bH hAb bB hAw bW hL
    obtain ⟨j, hj, rfl, hBel, hAx, bT, bH, hAb, bB, hAw, bW, hL⟩ := hrel
    by_cases hlt : ¬ j < hl.length
    · skip
      have bBc0 := bB.out.cell 0 rfl
      have bBc1 := bB.out.cell 1 rfl
      go_wp2_with fail
      clear bBc0 bBc1
      refine (implArenaOk_any hAb.out).mono ?_
      rintro e w11 ⟨rfl, hb11⟩
      rw [hrgt.out]
      replace hBel : Hid (Below w.heap.size w w11) := hBel.out.trans (Below.mono (hb11) hBel.out.size)
      replace hAx : Hid (ArenaAt w11 0 [.slice p0 x.vSlots.length d0, .slice p1 x.vFree.length d1] x) := ArenaAt_stays _ _ _ 0 _ _ (.of_below (hb11)) hAx.out
      replace bT : Hid (Box w11 BT [.slice p0 x.vSlots.length d0, .slice p1 x.vFree.length d1] 27) := bT.out.below (hb11) bT.out.lt
      replace bH : Hid (Box w11 (BT + 1) [.int .i64 hA, .int .i64 hX] 31) := bH.out.below (hb11) bH.out.lt
      replace hAb : Hid (ArenaAt w11 0 [.slice pb y.vSlots.length db, .slice qb y.vFree.length eb] y) := ArenaAt_stays _ _ _ 0 _ _ (.of_below (hb11)) hAb.out
      replace bB : Hid (Box w11 BB [.slice pb y.vSlots.length db, .slice qb y.vFree.length eb] 27) := bB.out.below (hb11) bB.out.lt
      replace hAw : Hid (ArenaAt w11 0 [.slice pw y.vSlots.length dw, .slice qw y.vFree.length ew] y) := ArenaAt_stays _ _ _ 0 _ _ (.of_below (hb11)) hAw.out
      replace bW : Hid (Box w11 BW [.slice pw y.vSlots.length dw, .slice qw y.vFree.length ew] 27) := bW.out.below (hb11) bW.out.lt
      replace hL : Hid (SeqAt 2 HandleAt w11 0 (.slice al hl.length cl) hl) := hL.out.below HandleAt_stays (hb11)
      clear hb11
      have bBc0 := bB.out.cell 0 rfl
      have bBc1 := bB.out.cell 1 rfl
      go_wp2_with fail
      clear bBc0 bBc1
      refine (implHandlesOf_any hAb.out).mono ?_
      rintro e w12 ⟨⟨k2, f2, rfl, own2, _, _⟩, hb12⟩
      rw [hhd.out] at own2
      have hL2 : Hid (SeqAt 2 HandleAt w12 0 k2 hl) := own2.at HandleOwn_at (fun _ _ => Nat.zero_le _)
      replace hBel : Hid (Below w.heap.size w w12) := hBel.out.trans (Below.mono (hb12) hBel.out.size)
      replace hAx : Hid (ArenaAt w12 0 [.slice p0 x.vSlots.length d0, .slice p1 x.vFree.length d1] x) := ArenaAt_stays _ _ _ 0 _ _ (.of_below (hb12)) hAx.out
      replace bT : Hid (Box w12 BT [.slice p0 x.vSlots.length d0, .slice p1 x.vFree.length d1] 27) := bT.out.below (hb12) bT.out.lt
      replace bH : Hid (Box w12 (BT + 1) [.int .i64 hA, .int .i64 hX] 31) := bH.out.below (hb12) bH.out.lt
      replace hAb : Hid (ArenaAt w12 0 [.slice pb y.vSlots.length db, .slice qb y.vFree.length eb] y) := ArenaAt_stays _ _ _ 0 _ _ (.of_below (hb12)) hAb.out
      replace bB : Hid (Box w12 BB [.slice pb y.vSlots.length db, .slice qb y.vFree.length eb] 27) := bB.out.below (hb12) bB.out.lt
      replace hAw : Hid (ArenaAt w12 0 [.slice pw y.vSlots.length dw, .slice qw y.vFree.length ew] y) := ArenaAt_stays _ _ _ 0 _ _ (.of_below (hb12)) hAw.out
      replace bW : Hid (Box w12 BW [.slice pw y.vSlots.length dw, .slice qw y.vFree.length ew] 27) := bW.out.below (hb12) bW.out.lt
      replace hL : Hid (SeqAt 2 HandleAt w12 0 (.slice al hl.length cl) hl) := hL.out.below HandleAt_stays (hb12)
      clear hb12 own2
      go_wp2_with fail
      refine (sameHandles_any hL2.out hL.out).mono ?_
      rintro e w13 ⟨rfl, hb13⟩
      replace hBel : Hid (Below w.heap.size w w13) := hBel.out.trans (Below.mono (hb13) hBel.out.size)
      replace hAx : Hid (ArenaAt w13 0 [.slice p0 x.vSlots.length d0, .slice p1 x.vFree.length d1] x) := ArenaAt_stays _ _ _ 0 _ _ (.of_below (hb13)) hAx.out
      replace bT : Hid (Box w13 BT [.slice p0 x.vSlots.length d0, .slice p1 x.vFree.length d1] 27) := bT.out.below (hb13) bT.out.lt
      replace bH : Hid (Box w13 (BT + 1) [.int .i64 hA, .int .i64 hX] 31) := bH.out.below (hb13) bH.out.lt
      replace hAb : Hid (ArenaAt w13 0 [.slice pb y.vSlots.length db, .slice qb y.vFree.length eb] y) := ArenaAt_stays _ _ _ 0 _ _ (.of_below (hb13)) hAb.out
      replace bB : Hid (Box w13 BB [.slice pb y.vSlots.length db, .slice qb y.vFree.length eb] 27) := bB.out.below (hb13) bB.out.lt
      replace hAw : Hid (ArenaAt w13 0 [.slice pw y.vSlots.length dw, .slice qw y.vFree.length ew] y) := ArenaAt_stays _ _ _ 0 _ _ (.of_below (hb13)) hAw.out
      replace bW : Hid (Box w13 BW [.slice pw y.vSlots.length dw, .slice qw y.vFree.length ew] 27) := bW.out.below (hb13) bW.out.lt
      replace hL : Hid (SeqAt 2 HandleAt w13 0 (.slice al hl.length cl) hl) := hL.out.below HandleAt_stays (hb13)
      clear hb13
      go_wp2_with fail
      go_ret
      exact ⟨rfl, hBel.out⟩
    have hlt2 : j < hl.length := by omega
    clear hlt
    have hlt' : (j : Int) < (hl.length : Int) := by omega
    have h0' : (0 : Int) ≤ (j : Int) := by omega
    obtain ⟨b, off, ea⟩ : ∃ b off, al = some ⟨b, off, none⟩ := by obtain ⟨a', c', e, _, hx⟩ := hL.out; obtain ⟨b, off, e4, _⟩ := hx (by omega); injection e with e1 _ _; exact ⟨b, off, by rw [e1, e4]⟩
    subst ea
    have hdY : Hid _ := hdA.out j hlt2
    obtain ⟨vy, hdN0, hv1_, hv2_⟩ := hdB.out j hlt2
    have hdN : Hid (derefD y hl[j].vAt hl[j].vGen = (vy, true)) := hdN0
    have hv1 := toHid hv1_
    have hv2 := toHid hv2_
    clear hdN0 hv1_ hv2_
    go_wp2_with fail
    replace hBel : Hid (Below w.heap.size w wr.drew) := hBel.out.drew
    replace hAx : Hid (ArenaAt wr.drew 0 [.slice p0 x.vSlots.length d0, .slice p1 x.vFree.length d1] x) := ArenaAt_stays _ _ _ 0 _ _ (.of_below (Below.drew (Below.refl _ _))) hAx.out
    replace bT : Hid (Box wr.drew BT [.slice p0 x.vSlots.length d0, .slice p1 x.vFree.length d1] 27) := bT.out
    replace bH : Hid (Box wr.drew (BT + 1) [.int .i64 hA, .int .i64 hX] 31) := bH.out
    replace hAb : Hid (ArenaAt wr.drew 0 [.slice pb y.vSlots.length db, .slice qb y.vFree.length eb] y) := ArenaAt_stays _ _ _ 0 _ _ (.of_below (Below.drew (Below.refl _ _))) hAb.out
    replace bB : Hid (Box wr.drew BB [.slice pb y.vSlots.length db, .slice qb y.vFree.length eb] 27) := bB.out
    replace hAw : Hid (ArenaAt wr.drew 0 [.slice pw y.vSlots.length dw, .slice qw y.vFree.length ew] y) := ArenaAt_stays _ _ _ 0 _ _ (.of_below (Below.drew (Below.refl _ _))) hAw.out
    replace bW : Hid (Box wr.drew BW [.slice pw y.vSlots.length dw, .slice qw y.vFree.length ew] 27) := bW.out
    replace hL : Hid (SeqAt 2 HandleAt wr.drew 0 (.slice (some ⟨b, off, none⟩) hl.length cl) hl) := hL.out.below HandleAt_stays (Below.drew (Below.refl _ _))
    obtain ⟨q0, q1⟩ := hcell_at hL.out j hlt2
    refine wp_region_held_drew (S := fun w' => w'.cell? ⟨BT, 0, none⟩ = some (.slice p0 x.vSlots.length d0) ∧ w'.cell? ⟨BT, 1, none⟩ = some (.slice p1 x.vFree.length d1) ∧ w'.cell? ⟨b, off + j * 2, none⟩ = some (.int .i64 hl[j].vAt) ∧ w'.cell? ⟨b, off + j * 2 + 1, none⟩ = some (.int .i64 hl[j].vGen)) (by kernel_rfl) ⟨bT.out.cell 0 rfl, bT.out.cell 1 rfl, q0, q1⟩ (fun hHeld => ?_)
    refine tq (i := 0) (d := 104) ?_
    simp only [sz, ss]
    refine tq (i := 1) (d := 105) ?_
    simp only [sz, ss]
    refine tq (i := 2) (d := 106) ?_
    simp only [sz, ss]
    refine tq (i := 3) (d := 107) ?_
    simp only [sz, ss]
    refine tq (i := 4) (d := 108) ?_
    simp only [sz, ss]
    refine wpAnyH_ready (rs := [5]) (by kernel_rfl) (by simp) ?_
    refine AllReadyH.cons rfl (fun K hK => ?_) AllReadyH.nil
    go_simp
    refine (implDeref_any (by exact hAx.out)).mono ?_
    rintro e w1 ⟨rfl, hb1⟩
    replace hBel : Hid (Below w.heap.size w w1) := hBel.out.trans (Below.mono (hb1) hBel.out.size)
    replace hAx : Hid (ArenaAt w1 0 [.slice p0 x.vSlots.length d0, .slice p1 x.vFree.length d1] x) := ArenaAt_stays _ _ _ 0 _ _ (.of_below (hb1)) hAx.out
    replace bT : Hid (Box w1 BT [.slice p0 x.vSlots.length d0, .slice p1 x.vFree.length d1] 27) := bT.out.below (hb1) bT.out.lt
    replace bH : Hid (Box w1 (BT + 1) [.int .i64 hA, .int .i64 hX] 31) := bH.out.below (hb1) bH.out.lt
    replace hAb : Hid (ArenaAt w1 0 [.slice pb y.vSlots.length db, .slice qb y.vFree.length eb] y) := ArenaAt_stays _ _ _ 0 _ _ (.of_below (hb1)) hAb.out
    replace bB : Hid (Box w1 BB [.slice pb y.vSlots.length db, .slice qb y.vFree.length eb] 27) := bB.out.below (hb1) bB.out.lt
    replace hAw : Hid (ArenaAt w1 0 [.slice pw y.vSlots.length dw, .slice qw y.vFree.length ew] y) := ArenaAt_stays _ _ _ 0 _ _ (.of_below (hb1)) hAw.out
    replace bW : Hid (Box w1 BW [.slice pw y.vSlots.length dw, .slice qw y.vFree.length ew] 27) := bW.out.below (hb1) bW.out.lt
    replace hL : Hid (SeqAt 2 HandleAt w1 0 (.slice (some ⟨b, off, none⟩) hl.length cl) hl) := hL.out.below HandleAt_stays (hb1)
    rw [hdY.out]
    refine hK.out _ _ ⟨cell_on hb1 hHeld.1, cell_on hb1 hHeld.2.1, cell_on hb1 hHeld.2.2.1, cell_on hb1 hHeld.2.2.2⟩ (fun hHeld => ?_)
    clear hK K
    refine tq (i := 6) (d := 103) ?_
    simp only [sz, ss]
    refine tq (i := 7) (d := 110) ?_
    simp only [sz, ss]
    refine tq (i := 8) (d := 111) ?_
    simp only [sz, ss]
    refine tq (i := 9) (d := 16) ?_
    simp only [sz, ss]
    refine tq (i := 10) (d := 17) ?_
    simp only [sz, ss]
    refine wpAnyH_done (by kernel_rfl) ?_ _
    clear q0 q1 hHeld
    go_wp2_with fail
    generalize w1 = w6 at *
    replace hBel : Hid (Below w.heap.size w w6.drew) := hBel.out.drew
    replace hAx : Hid (ArenaAt w6.drew 0 [.slice p0 x.vSlots.length d0, .slice p1 x.vFree.length d1] x) := ArenaAt_stays _ _ _ 0 _ _ (.of_below (Below.drew (Below.refl _ _))) hAx.out
    replace bT : Hid (Box w6.drew BT [.slice p0 x.vSlots.length d0, .slice p1 x.vFree.length d1] 27) := bT.out
    replace bH : Hid (Box w6.drew (BT + 1) [.int .i64 hA, .int .i64 hX] 31) := bH.out
    replace hAb : Hid (ArenaAt w6.drew 0 [.slice pb y.vSlots.length db, .slice qb y.vFree.length eb] y) := ArenaAt_stays _ _ _ 0 _ _ (.of_below (Below.drew (Below.refl _ _))) hAb.out
    replace bB : Hid (Box w6.drew BB [.slice pb y.vSlots.length db, .slice qb y.vFree.length eb] 27) := bB.out
    replace hAw : Hid (ArenaAt w6.drew 0 [.slice pw y.vSlots.length dw, .slice qw y.vFree.length ew] y) := ArenaAt_stays _ _ _ 0 _ _ (.of_below (Below.drew (Below.refl _ _))) hAw.out
    replace bW : Hid (Box w6.drew BW [.slice pw y.vSlots.length dw, .slice qw y.vFree.length ew] 27) := bW.out
    replace hL : Hid (SeqAt 2 HandleAt w6.drew 0 (.slice (some ⟨b, off, none⟩) hl.length cl) hl) := hL.out.below HandleAt_stays (Below.drew (Below.refl _ _))
    obtain ⟨q0, q1⟩ := hcell_at hL.out j hlt2
    refine wp_region_held_drew (S := fun w' => w'.cell? ⟨BB, 0, none⟩ = some (.slice pb y.vSlots.length db) ∧ w'.cell? ⟨BB, 1, none⟩ = some (.slice qb y.vFree.length eb) ∧ w'.cell? ⟨b, off + j * 2, none⟩ = some (.int .i64 hl[j].vAt) ∧ w'.cell? ⟨b, off + j * 2 + 1, none⟩ = some (.int .i64 hl[j].vGen)) (by kernel_rfl) ⟨bB.out.cell 0 rfl, bB.out.cell 1 rfl, q0, q1⟩ (fun hHeld => ?_)
    refine tq (i := 0) (d := 113) ?_
    simp only [sz, ss]
    refine tq (i := 1) (d := 114) ?_
    simp only [sz, ss]
    refine tq (i := 2) (d := 115) ?_
    simp only [sz, ss]
    refine tq (i := 3) (d := 116) ?_
    simp only [sz, ss]
    refine tq (i := 4) (d := 117) ?_
    simp only [sz, ss]
    refine wpAnyH_ready (rs := [5]) (by kernel_rfl) (by simp) ?_
    refine AllReadyH.cons rfl (fun K hK => ?_) AllReadyH.nil
    go_simp
    refine (implDeref_any (by exact hAb.out)).mono ?_
    rintro e w1 ⟨rfl, hb1⟩
    replace hBel : Hid (Below w.heap.size w w1) := hBel.out.trans (Below.mono (hb1) hBel.out.size)
    replace hAx : Hid (ArenaAt w1 0 [.slice p0 x.vSlots.length d0, .slice p1 x.vFree.length d1] x) := ArenaAt_stays _ _ _ 0 _ _ (.of_below (hb1)) hAx.out
    replace bT : Hid (Box w1 BT [.slice p0 x.vSlots.length d0, .slice p1 x.vFree.length d1] 27) := bT.out.below (hb1) bT.out.lt
    replace bH : Hid (Box w1 (BT + 1) [.int .i64 hA, .int .i64 hX] 31) := bH.out.below (hb1) bH.out.lt
    replace hAb : Hid (ArenaAt w1 0 [.slice pb y.vSlots.length db, .slice qb y.vFree.length eb] y) := ArenaAt_stays _ _ _ 0 _ _ (.of_below (hb1)) hAb.out
    replace bB : Hid (Box w1 BB [.slice pb y.vSlots.length db, .slice qb y.vFree.length eb] 27) := bB.out.below (hb1) bB.out.lt
    replace hAw : Hid (ArenaAt w1 0 [.slice pw y.vSlots.length dw, .slice qw y.vFree.length ew] y) := ArenaAt_stays _ _ _ 0 _ _ (.of_below (hb1)) hAw.out
    replace bW : Hid (Box w1 BW [.slice pw y.vSlots.length dw, .slice qw y.vFree.length ew] 27) := bW.out.below (hb1) bW.out.lt
    replace hL : Hid (SeqAt 2 HandleAt w1 0 (.slice (some ⟨b, off, none⟩) hl.length cl) hl) := hL.out.below HandleAt_stays (hb1)
    rw [hdN.out]
    refine hK.out _ _ ⟨cell_on hb1 hHeld.1, cell_on hb1 hHeld.2.1, cell_on hb1 hHeld.2.2.1, cell_on hb1 hHeld.2.2.2⟩ (fun hHeld => ?_)
    clear hK K
    refine tq (i := 6) (d := 112) ?_
    simp only [sz, ss]
    refine tq (i := 7) (d := 119) ?_
    simp only [sz, ss]
    refine tq (i := 8) (d := 120) ?_
    simp only [sz, ss]
    refine tq (i := 9) (d := 18) ?_
    simp only [sz, ss]
    refine tq (i := 10) (d := 19) ?_
    simp only [sz, ss]
    refine wpAnyH_done (by kernel_rfl) ?_ _
    clear q0 q1 hHeld
    go_wp2_with fail
    generalize w1 = w7 at *
    replace hBel : Hid (Below w.heap.size w w7.drew) := hBel.out.drew
    replace hAx : Hid (ArenaAt w7.drew 0 [.slice p0 x.vSlots.length d0, .slice p1 x.vFree.length d1] x) := ArenaAt_stays _ _ _ 0 _ _ (.of_below (Below.drew (Below.refl _ _))) hAx.out
    replace bT : Hid (Box w7.drew BT [.slice p0 x.vSlots.length d0, .slice p1 x.vFree.length d1] 27) := bT.out
    replace bH : Hid (Box w7.drew (BT + 1) [.int .i64 hA, .int .i64 hX] 31) := bH.out
    replace hAb : Hid (ArenaAt w7.drew 0 [.slice pb y.vSlots.length db, .slice qb y.vFree.length eb] y) := ArenaAt_stays _ _ _ 0 _ _ (.of_below (Below.drew (Below.refl _ _))) hAb.out
    replace bB : Hid (Box w7.drew BB [.slice pb y.vSlots.length db, .slice qb y.vFree.length eb] 27) := bB.out
    replace hAw : Hid (ArenaAt w7.drew 0 [.slice pw y.vSlots.length dw, .slice qw y.vFree.length ew] y) := ArenaAt_stays _ _ _ 0 _ _ (.of_below (Below.drew (Below.refl _ _))) hAw.out
    replace bW : Hid (Box w7.drew BW [.slice pw y.vSlots.length dw, .slice qw y.vFree.length ew] 27) := bW.out
    replace hL : Hid (SeqAt 2 HandleAt w7.drew 0 (.slice (some ⟨b, off, none⟩) hl.length cl) hl) := hL.out.below HandleAt_stays (Below.drew (Below.refl _ _))
    obtain ⟨q0, q1⟩ := hcell_at hL.out j hlt2
    by_cases heq : hl[j].vAt = hA ∧ hl[j].vGen = hX
    · have evy := hv1.out heq
      subst evy
      rw [heq.1] at q0
      rw [heq.2] at q1
      refine wp_region_held_drew (S := fun w' => w'.cell? ⟨b, off + j * 2, none⟩ = some (.int .i64 hA) ∧ w'.cell? ⟨b, off + j * 2 + 1, none⟩ = some (.int .i64 hX) ∧ w'.cell? ⟨(BT + 1), 0, none⟩ = some (.int .i64 hA) ∧ w'.cell? ⟨(BT + 1), 1, none⟩ = some (.int .i64 hX)) (by kernel_rfl) ⟨q0, q1, bH.out.cell 0 rfl, bH.out.cell 1 rfl⟩ (fun hHeld => ?_)
      refine tq (i := 0) (d := 121) ?_
      simp only [sz, ss]
      refine tq (i := 1) (d := 122) ?_
      simp only [sz, ss]
      refine tq (i := 2) (d := 123) ?_
      simp only [sz, ss]
      refine tq (i := 3) (d := 124) ?_
      simp only [sz, ss]
      refine tq (i := 4) (d := 125) ?_
      simp only [sz, ss]
      refine tq (i := 5) (d := 126) ?_
      simp only [sz, ss]
      refine wpAnyH_done (by kernel_rfl) ?_ _
      clear hHeld q0 q1
      go_wp2_with fail
      go_roundw
      case rel => exact ⟨j + 1, by omega, by go_num, hBel, hAx, bT, bH, hAb, bB, hAw, bW, hL⟩
      case measure => simp [intOf]; omega
    · have evy := hv2.out heq
      subst evy
      have heq' : hl[j].vAt = hA → hl[j].vGen = hX → False := fun e1 e2 => heq ⟨e1, e2⟩
      refine wp_region_held_drew (S := fun w' => w'.cell? ⟨b, off + j * 2, none⟩ = some (.int .i64 hl[j].vAt) ∧ w'.cell? ⟨b, off + j * 2 + 1, none⟩ = some (.int .i64 hl[j].vGen) ∧ w'.cell? ⟨(BT + 1), 0, none⟩ = some (.int .i64 hA) ∧ w'.cell? ⟨(BT + 1), 1, none⟩ = some (.int .i64 hX)) (by kernel_rfl) ⟨q0, q1, bH.out.cell 0 rfl, bH.out.cell 1 rfl⟩ (fun hHeld => ?_)
      refine tq (i := 0) (d := 121) ?_
      simp only [sz, ss]
      refine tq (i := 1) (d := 122) ?_
      simp only [sz, ss]
      refine tq (i := 2) (d := 123) ?_
      simp only [sz, ss]
      refine tq (i := 3) (d := 124) ?_
      simp only [sz, ss]
      refine tq (i := 4) (d := 125) ?_
      simp only [sz, ss]
      refine take_lit (i := 5) (d := 126) (v := .bool false) rfl rfl (by kernel_rfl) (by kernel_rfl) (by kernel_rfl) (fun _ _ _ h => h) (Or.inl ⟨by rfl, ?_⟩) (by assumption) ?_
      · (intro w hSw; (try dsimp only at hSw); go_simp; first | done | exact heq')
      simp only [sz, ss]
      refine wpAnyH_done (by kernel_rfl) ?_ _
      clear hHeld q0 q1
      go_wp2_with fail
      go_roundw
      case rel => exact ⟨j + 1, by omega, by go_num, hBel, hAx, bT, bH, hAb, bB, hAw, bW, hL⟩
      case measure => simp [intOf]; omega
end Go.Proofs.Ytcbomaflfjdmjaa
