/- Released of the program, walked. -/
import Derived.Test.YtcbomaflfjdmjaaArRel
import Derived.Test.YtcbomaflfjdmjaaArPoolR
import Derived.Test.YtcbomaflfjdmjaaArIns
import Derived.Deep.RegionHeld3
import Derived.Test.YtcbomaflfjdmjaaTakeLit
import Derived.Test.YtcbomaflfjdmjaaArRng
namespace Go.Proofs.Ytcbomaflfjdmjaa
open Go.RowKit
theorem releasedD_few (x : ArenaD) (a g : Int) : (releasedD x a g).1.vSlots.length ≤ 12 ∧ (releasedD x a g).1.vFree.length ≤ 13 := by
  unfold releasedD
  cases hl : liveB x a g with
  | false => simp [nilA]
  | true =>
    have h := (liveB_iff.1 hl).1
    have h1 := h.2.1
    have h2 := h.2.2.1
    split
    · simp; omega
    · simp [nilA]
theorem row_own {w : World} {base : Nat} {v : Value} {xs : List Int} (h : w.ownsRow base 2 1 v xs.length (xs.map fun n => Value.int .i64 n)) (hx : ∀ x ∈ xs, InI x) : SeqOwn 1 IntOwn w v xs v.ownBlock.toList := by
  obtain ⟨_, ho⟩ := h
  rcases ho with ⟨rfl, hn⟩ | ⟨g, cap, cur, rfl, hg, hh, h1, h2, h3, h4⟩
  · exact ⟨none, 0, by rw [hn], ⟨by omega, by omega⟩, Or.inl ⟨hn, rfl⟩⟩
  · show SeqOwn 1 IntOwn w (.slice (some ⟨g, 0, none⟩) xs.length cap) xs [g]
    refine ⟨_, _, rfl, ⟨Nat.le_trans h1 h2, h1⟩, Or.inr ⟨g, 0, rfl, cur, 2, xs.map fun _ => [], hh, by omega, by simp, by simp, by simp, fun i hi hi' => ⟨[.int .i64 xs[i]], rfl, fun m hm => ?_, rfl, hx _ (List.getElem_mem hi), by simp⟩⟩⟩
    have hm0 : m = 0 := by simpa using hm
    subst hm0
    have h5 : cur.toList[i]? = some (.int .i64 xs[i]) := by
      have h6 : (cur.toList.take (xs.length * 1))[i]? = some (.int .i64 xs[i]) := by rw [h4]; simp
      rw [List.getElem?_take] at h6
      split at h6
      · exact h6
      · cases h6
    simpa using h5
/-- a pool of which the row of what is free was laid anew -/
theorem PoolAt.refree {w w6 : World} {lo g : Nat} {xs : List SlotD} {fr : List Int} {k fk v6 : Value} {fs ffs : List Nat} {p : Int} (h : PoolAt w lo g xs fr k fk fs ffs) (hF : RowF w lo fk fr g fs) (hp : InI p) (hf : ∀ x ∈ fr, InI x) (ho : w6.ownsRow lo 2 1 v6 (fr.length + 1) ((p :: fr).map fun n => Value.int .i64 n)) (hg : w.grownBy w6 fk.ownBlock) (hat : v6.ownBlock = fk.ownBlock ∨ v6.ownBlock = some w.heap.size) : PoolAt (w6.setCell ⟨g, 1, none⟩ v6) lo g xs (p :: fr) k v6 fs v6.ownBlock.toList := by
  have hk : ∀ b, b < w.heap.size → b = g ∨ b ∈ fs → w6.heap[b]? = w.heap[b]? := fun b hb hm => hg.block b hb (fun e => by
    have h5 := hF.2 b e.symm
    rcases hm with rfl | hm
    · exact h5.1 rfl
    · exact h5.2 hm)
  obtain ⟨q1, q2, q3, q4, q5, q6, q7, q8, q9⟩ := h
  have hb6 : Box w6 g [k, fk] 59 := (hk g q1.lt (Or.inl rfl)).trans q1
  have hap : ∀ b, v6.ownBlock = some b → b ≠ g ∧ b ∉ fs := fun b e => by
    rcases hat with r | r1
    · rw [r] at e; exact hF.2 b e
    · rw [r1] at e
      injection e with e
      subst e
      exact ⟨fun e => by have := q1.lt; omega, fun m => by have := q3.lt pslot_lt _ m; omega⟩
  have h0 : PoolAt w6 lo g xs [] k (.slice none 0 0) fs [] → True := fun _ => trivial
  have hS : SeqOwn 1 PSlot w6 k xs fs := q3.stays pslot_stays (fun b m => hk b (q3.lt pslot_lt b m) (Or.inr m))
  have hO : SeqOwn 1 IntOwn w6 v6 (p :: fr) v6.ownBlock.toList := row_own (by simpa using ho) (by intro x hx; rcases List.mem_cons.1 hx with rfl | hx; exact hp; exact hf x hx)
  have hmem : ∀ b, b ∈ v6.ownBlock.toList → v6.ownBlock = some b := fun b m => by simpa [Option.mem_toList] using m
  exact ⟨hb6.set _, q2, hS.stays pslot_stays (fun b m => set_other (fun e : b = g => q7 (e ▸ m)) _), hO.stays intOwn_stays (fun b m => set_other (fun e : b = g => (hap b (hmem b m)).1 e) _), q5, fun b m => (ownsRow_lt ho (hmem b m)).1, q7, fun m => (hap g (hmem g m)).1 rfl, fun b m1 m2 => (hap b (hmem b m2)).2 m1⟩
set_option maxRecDepth 100000 in
set_option maxHeartbeats 4000000 in
theorem implReleased_any {w : World} {lo : Nat} {cs : List Value} {x : ArenaD} {hAt hGen : Int} (hx : ArenaAt w lo cs x) :
    Calls Try.prog 19 #[.agg cs.toArray, .agg #[.int .i64 hAt, .int .i64 hGen]] w fun e w' => AnsAB w w' (releasedD x hAt hGen) e ∧ Below w.heap.size w w' := by
  have hx' : Hid (ArenaAt w lo cs x) := hx
  obtain ⟨k0, k1, rfl, s0, s1, _⟩ := hx
  obtain ⟨a0, c0, rfl⟩ := s0.form
  obtain ⟨a1, c1, rfl⟩ := s1.form
  clear s0 s1
  have hb0 : Below w.heap.size w (((w.alloc (.cells (List.toArray [.slice a0 x.vSlots.length c0, .slice a1 x.vFree.length c1]) 27)).alloc (.cells (List.toArray [.int .i64 hAt, .int .i64 hGen]) 31)).alloc (.cells (List.toArray [.slice none 0 0, .slice none 0 0]) 27)) := (((Below.refl _ _).alloc (Nat.le_refl _) _).alloc (by simp) _).alloc (by simp; omega) _
  have bA0 : Hid (Box (((w.alloc (.cells (List.toArray [.slice a0 x.vSlots.length c0, .slice a1 x.vFree.length c1]) 27)).alloc (.cells (List.toArray [.int .i64 hAt, .int .i64 hGen]) 31)).alloc (.cells (List.toArray [.slice none 0 0, .slice none 0 0]) 27)) w.heap.size [.slice a0 x.vSlots.length c0, .slice a1 x.vFree.length c1] 27) := ((Box.new w _ _).alloc _).alloc _
  have bH0 : Hid (Box (((w.alloc (.cells (List.toArray [.slice a0 x.vSlots.length c0, .slice a1 x.vFree.length c1]) 27)).alloc (.cells (List.toArray [.int .i64 hAt, .int .i64 hGen]) 31)).alloc (.cells (List.toArray [.slice none 0 0, .slice none 0 0]) 27)) (w.heap.size + 1) [.int .i64 hAt, .int .i64 hGen] 31) := by have h5 := (Box.new (w.alloc (.cells (List.toArray [.slice a0 x.vSlots.length c0, .slice a1 x.vFree.length c1]) 27)) [.int .i64 hAt, .int .i64 hGen] 31).alloc (.cells (List.toArray [.slice none 0 0, .slice none 0 0]) 27); simpa [Hid] using h5
  have bR0 : Hid (Box (((w.alloc (.cells (List.toArray [.slice a0 x.vSlots.length c0, .slice a1 x.vFree.length c1]) 27)).alloc (.cells (List.toArray [.int .i64 hAt, .int .i64 hGen]) 31)).alloc (.cells (List.toArray [.slice none 0 0, .slice none 0 0]) 27)) (w.heap.size + 1 + 1) [.slice none 0 0, .slice none 0 0] 27) := by have h5 := Box.new ((w.alloc (.cells (List.toArray [.slice a0 x.vSlots.length c0, .slice a1 x.vFree.length c1]) 27)).alloc (.cells (List.toArray [.int .i64 hAt, .int .i64 hGen]) 31)) [.slice none 0 0, .slice none 0 0] 27; simpa [Hid] using h5
  have hxA : Hid (ArenaAt (((w.alloc (.cells (List.toArray [.slice a0 x.vSlots.length c0, .slice a1 x.vFree.length c1]) 27)).alloc (.cells (List.toArray [.int .i64 hAt, .int .i64 hGen]) 31)).alloc (.cells (List.toArray [.slice none 0 0, .slice none 0 0]) 27)) lo [.slice a0 x.vSlots.length c0, .slice a1 x.vFree.length c1] x) := ArenaAt_stays _ _ _ lo _ _ (.of_below hb0) hx'.out
  have hno : Hid (∀ w2 : World, AnsAB w w2 (nilA, false) (.returned (.tuple #[.agg #[.slice none 0 0, .slice none 0 0], .bool false]))) := fun w2 => ⟨[.slice none 0 0, .slice none 0 0], rfl, ansNil⟩
  go_enter Try.func19, Try.ntmps19
  go_wp2_with fail
  refine (livingR_any hxA.out).mono ?_
  rintro e w1 ⟨hA, hb1⟩
  have hB1 : Below w.heap.size w w1 := hb0.trans (hb1.mono hb0.size)
  have bR1 : Hid (Box w1 (w.heap.size + 1 + 1) [.slice none 0 0, .slice none 0 0] 27) := bR0.out.below hb1 bR0.out.lt
  have bH1 : Hid (Box w1 (w.heap.size + 1) [.int .i64 hAt, .int .i64 hGen] 31) := bH0.out.below hb1 bH0.out.lt
  have q0 := bR1.out.cell 0 rfl
  have q1 := bR1.out.cell 1 rfl
  have qu := bR1.out.unfrozen
  rcases hA with ⟨hn, u, v, rfl⟩ | ⟨hy, g, k, fk, fs, ffs, b, off, cap, qq, rfl, hP, hrw, ek, zp⟩
  · have HD : Hid _ := releasedD_dead (liveB_false hn)
    clear hn
    go_wp2_with fail
    have bRf : Hid (Box (putCells w1 (w.heap.size + 1 + 1) 0 [.slice none 0 0, .slice none 0 0]) (w.heap.size + 1 + 1) [.slice none 0 0, .slice none 0 0] 27) := (bR1.out.set _).set _
    have e0_ := bRf.out.cell 0 rfl
    have e1_ := bRf.out.cell 1 rfl
    simp only [putCells, Nat.zero_add] at e0_ e1_
    have hBf : Hid (Below w.heap.size w (putCells w1 (w.heap.size + 1 + 1) 0 [.slice none 0 0, .slice none 0 0])) := putCells_below _ _ _ _ _ _ (by omega) hB1
    have hKf : Hid (∀ b, b ≠ w.heap.size + 1 + 1 → (putCells w1 (w.heap.size + 1 + 1) 0 [.slice none 0 0, .slice none 0 0]).heap[b]? = (World.heap w1)[b]?) := fun b n1 => putCells_other _ _ _ _ _ n1
    refine bodyPost_ret (v := .tuple #[.agg (List.toArray [.slice none 0 0, .slice none 0 0]), .bool false]) (by simp [results, Try.results19, go_sem, e0_, e1_]) rfl ⟨by rw [HD.out]; exact hno.out _, hBf.out⟩
  have hL := liveB_true hy
  obtain ⟨hy0, hi0, hp1, _, hge⟩ := hy
  have hn2 : x.vSlots.length ≤ 12 := hy0.2.1
  have hn3 : x.vFree.length ≤ 12 := by have := hy0.2.2.1; omega
  have hgb : 1 ≤ hGen ∧ hGen ≤ 1000000 := by have h5 := hy0.2.2.2.1 _ hp1; rw [← hge]; exact ⟨h5.1, h5.2.1⟩
  clear hy0
  obtain ⟨p, rfl⟩ : ∃ p : Nat, hAt = (p : Int) := ⟨hAt.toNat, by omega⟩
  simp only [Int.toNat_natCast] at hp1 zp hge
  obtain ⟨b2, off2, cap2, q2, e2, z2, hBq, hrg, ⟨hqm, hql, hqlo⟩, hcl⟩ := hP.step hp1
  rw [ek] at e2
  injection e2 with e3 _ _
  injection e3 with e3
  injection e3 with e4 e5
  subst e4 e5
  rw [zp] at z2
  injection z2 with z2
  injection z2 with z2
  injection z2 with z2
  injection z2 with z2
  subst z2
  have z50 := hBq.cell 0 rfl
  have z51 := hBq.cell 1 rfl
  have z52 := hBq.cell 2 rfl
  have z5u := hBq.unfrozen
  rw [hge] at z50
  by_cases hG : hGen = 1000000
  · have HD : Hid _ := releasedD_last (x := x) (a := (p : Int)) hG
    have hG' : (hGen == 1000000) = true := by simp [hG]
    clear hP hcl ek zp hBq hrw
    go_wp2_with fail
    have bRf : Hid (Box (putCells w1 (w.heap.size + 1 + 1) 0 [.slice none 0 0, .slice none 0 0]) (w.heap.size + 1 + 1) [.slice none 0 0, .slice none 0 0] 27) := (bR1.out.set _).set _
    have e0_ := bRf.out.cell 0 rfl
    have e1_ := bRf.out.cell 1 rfl
    simp only [putCells, Nat.zero_add] at e0_ e1_
    have hBf : Hid (Below w.heap.size w (putCells w1 (w.heap.size + 1 + 1) 0 [.slice none 0 0, .slice none 0 0])) := putCells_below _ _ _ _ _ _ (by omega) hB1
    have hKf : Hid (∀ b, b ≠ w.heap.size + 1 + 1 → (putCells w1 (w.heap.size + 1 + 1) 0 [.slice none 0 0, .slice none 0 0]).heap[b]? = (World.heap w1)[b]?) := fun b n1 => putCells_other _ _ _ _ _ n1
    refine bodyPost_ret (v := .tuple #[.agg (List.toArray [.slice none 0 0, .slice none 0 0]), .bool false]) (by simp [results, Try.results19, go_sem, e0_, e1_]) rfl ⟨by rw [HD.out]; exact hno.out _, hBf.out⟩
  have hG' : (hGen == 1000000) = false := by simpa using hG
  have HD0 := releasedD_yes hL hG
  simp only [Int.toNat_natCast] at HD0
  have HD : Hid _ := HD0
  obtain ⟨LO, hLO⟩ : ∃ LO, LO = (World.heap (((w.alloc (.cells (List.toArray [.slice a0 x.vSlots.length c0, .slice a1 x.vFree.length c1]) 27)).alloc (.cells (List.toArray [.int .i64 (p : Int), .int .i64 hGen]) 31)).alloc (.cells (List.toArray [.slice none 0 0, .slice none 0 0]) 27))).size := ⟨_, rfl⟩
  rw [← hLO] at hP hrw hqlo hcl
  have hLO' : w.heap.size + 1 + 1 < LO := by rw [hLO]; simp only [World.size_alloc]; omega
  have hbA := hBq.set (i := 0) (.int .i64 (hGen + 1))
  have hbB := hbA.set (i := 1) (.bool false)
  have hbC := hbB.set (i := 2) (.string ⟨#[]⟩)
  have xA1 := hbA.cell 1 rfl
  have xA2 := hbA.cell 2 rfl
  have xAu := hbA.unfrozen
  have xB2 := hbB.cell 2 rfl
  have xBu := hbB.unfrozen
  have hOA : Out [qq] w1 (((w1.setCell ⟨qq, 0, none⟩ (.int .i64 (hGen + 1))).setCell ⟨qq, 1, none⟩ (.bool false)).setCell ⟨qq, 2, none⟩ (.string ⟨#[]⟩)) := (((Out.refl _ _).set (by simp) _).set (by simp) _).set (by simp) _
  have hPA : Hid (PoolAt (((w1.setCell ⟨qq, 0, none⟩ (.int .i64 (hGen + 1))).setCell ⟨qq, 1, none⟩ (.bool false)).setCell ⟨qq, 2, none⟩ (.string ⟨#[]⟩)) LO g (x.vSlots.set p ⟨hGen + 1, false, ⟨#[]⟩⟩) x.vFree k fk fs ffs) := hcl (((w1.setCell ⟨qq, 0, none⟩ (.int .i64 (hGen + 1))).setCell ⟨qq, 1, none⟩ (.bool false)).setCell ⟨qq, 2, none⟩ (.string ⟨#[]⟩)) ⟨hGen + 1, false, ⟨#[]⟩⟩ hOA hbC (by show InI (hGen + 1); unfold InI; omega) (by show (ByteArray.mk #[]).size ≤ maxLen; decide)
  have hFi : Hid (∀ y ∈ x.vFree, InI y) := (small_rng hx'.out).2
  have hrA : Hid (RowF (((w1.setCell ⟨qq, 0, none⟩ (.int .i64 (hGen + 1))).setCell ⟨qq, 1, none⟩ (.bool false)).setCell ⟨qq, 2, none⟩ (.string ⟨#[]⟩)) LO fk x.vFree g fs) := hrw.stays (fun b e => hOA.keep (ownsRow_lt hrw.1 e).2 (by simp; intro e5; exact (hrw.2 b e).2 (e5 ▸ hqm)))
  have bRA : Hid (Box (((w1.setCell ⟨qq, 0, none⟩ (.int .i64 (hGen + 1))).setCell ⟨qq, 1, none⟩ (.bool false)).setCell ⟨qq, 2, none⟩ (.string ⟨#[]⟩)) (w.heap.size + 1 + 1) [.slice none 0 0, .slice none 0 0] 27) := ((bR1.out.other (by omega) _).other (by omega) _).other (by omega) _
  have bHA : Hid (Box (((w1.setCell ⟨qq, 0, none⟩ (.int .i64 (hGen + 1))).setCell ⟨qq, 1, none⟩ (.bool false)).setCell ⟨qq, 2, none⟩ (.string ⟨#[]⟩)) (w.heap.size + 1) [.int .i64 (p : Int), .int .i64 hGen] 31) := ((bH1.out.other (by omega) _).other (by omega) _).other (by omega) _
  have hBA : Below w.heap.size w (((w1.setCell ⟨qq, 0, none⟩ (.int .i64 (hGen + 1))).setCell ⟨qq, 1, none⟩ (.bool false)).setCell ⟨qq, 2, none⟩ (.string ⟨#[]⟩)) := ((hB1.setCell (by exact (by omega : w.heap.size ≤ qq)) _).setCell (by exact (by omega : w.heap.size ≤ qq)) _).setCell (by exact (by omega : w.heap.size ≤ qq)) _
  have hwr : IntKind.i64.wrap (hGen + 1) = hGen + 1 := by rw [IntKind.wrap_i64]; omega
  clear hP hcl ek zp hBq hrw hbA hbB hbC hOA HD0 hrg
  go_upto_region 5 with fail
  generalize (((w1.setCell ⟨qq, 0, none⟩ (.int .i64 (hGen + 1))).setCell ⟨qq, 1, none⟩ (.bool false)).setCell ⟨qq, 2, none⟩ (.string ⟨#[]⟩)) = wa at hPA hrA bRA bHA hBA ⊢
  have bGd : Hid (Box wa.drew g [k, fk] 59) := hPA.out.1
  have bG8 : Hid (Box (wa.drew.alloc (.cells #[.int .i64 (p : Int)] 2)) g [k, fk] 59) := bGd.out.alloc _
  have bR8 : Hid (Box (wa.drew.alloc (.cells #[.int .i64 (p : Int)] 2)) (w.heap.size + 1 + 1) [.slice none 0 0, .slice none 0 0] 27) := (show Box wa.drew _ _ _ from bRA.out).alloc _
  have hb8 : Below wa.heap.size wa (wa.drew.alloc (.cells #[.int .i64 (p : Int)] 2)) := (Below.refl _ _).drew.alloc (Nat.le_refl _) _
  have hrw8 : Hid (RowF (wa.drew.alloc (.cells #[.int .i64 (p : Int)] 2)) LO fk x.vFree g fs) := hrA.out.below hb8
  have hbx8 : Hid (Box (wa.drew.alloc (.cells #[.int .i64 (p : Int)] 2)) wa.heap.size [.int .i64 (p : Int)] 2) := Box.new wa.drew _ _
  have hgl : g < wa.heap.size := hPA.out.1.lt
  have hgl8 : Hid (g < (World.heap (wa.drew.alloc (.cells #[.int .i64 (p : Int)] 2))).size) := by show g < (World.heap (wa.drew.alloc (.cells #[.int .i64 (p : Int)] 2))).size; simp; show g < wa.heap.size + 1; omega
  have hLg : LO ≤ g := hPA.out.2.1
  have hLO8 : Hid (LO ≤ (World.heap (wa.drew.alloc (.cells #[.int .i64 (p : Int)] 2))).size) := by show LO ≤ (World.heap (wa.drew.alloc (.cells #[.int .i64 (p : Int)] 2))).size; simp; show LO ≤ wa.heap.size + 1; omega
  have hne8 : Hid (fk.ownBlock ≠ some wa.heap.size) := fun e => by have := (ownsRow_lt hrA.out.1 e).2; omega
  have hnG8 : Hid (fk.ownBlock ≠ some g) := fun e => (hrA.out.2 g e).1 rfl
  have hnH8 : Hid (fk.ownBlock ≠ some (w.heap.size + 1)) := fun e => by have := (ownsRow_lt hrA.out.1 e).1; omega
  have hnR8 : Hid (fk.ownBlock ≠ some (w.heap.size + 1 + 1)) := fun e => by have := (ownsRow_lt hrA.out.1 e).1; omega
  have hmk : Hid (∀ (w6 : World) (v6 : Value), World.ownsRow w6 LO 2 1 v6 (x.vFree.length + 1) (((p : Int) :: x.vFree).map fun n => Value.int .i64 n) → World.grownBy (wa.drew.alloc (.cells #[.int .i64 (p : Int)] 2)) w6 fk.ownBlock → (v6.ownBlock = fk.ownBlock ∨ v6.ownBlock = some (World.heap (wa.drew.alloc (.cells #[.int .i64 (p : Int)] 2))).size) → PoolAt (w6.setCell ⟨g, 1, none⟩ v6) LO g (x.vSlots.set p ⟨hGen + 1, false, ⟨#[]⟩⟩) ((p : Int) :: x.vFree) k v6 fs v6.ownBlock.toList) := fun w6 v6 ho hg hat => (hPA.out.below hb8).refree hrw8.out (by unfold InI; omega) hFi.out ho hg hat
  have hB8 : Hid (∀ (w6 : World) (v6 : Value), World.grownBy (wa.drew.alloc (.cells #[.int .i64 (p : Int)] 2)) w6 fk.ownBlock → Below w.heap.size w (w6.setCell ⟨g, 1, none⟩ v6)) := fun w6 v6 hg => ((hBA.trans (hb8.mono hBA.size)).trans (((Below.refl _ _).grown hg (by simp; show w.heap.size ≤ wa.heap.size + 1; omega) (fun b e => by have := (ownsRow_lt hrA.out.1 e).1; omega)))).setCell (by exact (by omega : w.heap.size ≤ g)) _
  have h0_ := bHA.out.cell 0 rfl
  clear z50 z51 z52 z5u xA1 xA2 xAu xB2 xBu q0 q1 qu
  refine wp_region_held_drew (S := fun w' => w'.cell? ⟨w.heap.size + 1, 0, none⟩ = some (.int .i64 (p : Int))) (by kernel_rfl) (by assumption) (fun hHeld => ?_)
  refine tq (i := 0) (d := 34) ?_
  simp only [sz, ss]
  refine tq (i := 1) (d := 35) ?_
  simp only [sz, ss]
  refine tq (i := 2) (d := 36) ?_
  simp only [sz, ss]
  refine tq (i := 3) (d := 37) ?_
  simp only [sz, ss]
  refine tq (i := 5) (d := 39) ?_
  simp only [sz, ss]
  refine tq (i := 6) (d := 40) ?_
  simp only [sz, ss]
  refine wpAnyH_ready (rs := [4, 7]) (by kernel_rfl) (by simp) ?_
  refine (AllReadyH.cons rfl (fun K hK => ?_) (AllReadyH.cons rfl (fun K hK => ?_) AllReadyH.nil))
  · have cF : wa.drew.cell? ⟨g, 1, none⟩ = some fk := bGd.out.cell 1 rfl
    go_simp
    clear cF
    refine hK.out _ _ hHeld (fun hHeld => ?_)
    clear hK K
    refine wpAnyH_ready (rs := [7]) (by kernel_rfl) (by simp) ?_
    refine AllReadyH.cons rfl (fun K hK => ?_) AllReadyH.nil
    go_simp
    refine hK.out _ _ (cell_alloc hHeld _) (fun hHeld => ?_)
    clear hK K
    refine wpAnyH_ready (rs := [8]) (by kernel_rfl) (by simp) ?_
    refine AllReadyH.cons rfl (fun K hK => ?_) AllReadyH.nil
    go_simp
    refine (insertI_any (w := (wa.drew.alloc (.cells #[.int .i64 (p : Int)] 2))) (base := LO) (vb := wa.heap.size) (h := (p : Int)) (TV := 2) hrw8.out.1 (by omega) hLO8.out hbx8.out hne8.out).mono ?_
    rintro e w6 ⟨⟨v6, rfl, ho6, hat6⟩, hg6⟩
    obtain ⟨a6, c6, rfl⟩ := row_form ho6
    have hcl6 : Hid _ := ho6
    have hgr6 : Hid _ := hg6
    have hat6h : Hid _ := hat6
    refine hK.out _ _ (cell_grown (by exact hHeld) hg6 hnH8.out) (fun hHeld => ?_)
    clear hK K
    refine tq (i := 9) (d := 43) ?_
    simp only [sz, ss]
    refine tq (i := 10) (d := 44) ?_
    simp only [sz, ss]
    refine wpAnyH_ready (rs := [11]) (by kernel_rfl) (by simp) ?_
    refine AllReadyH.cons rfl (fun K hK => ?_) AllReadyH.nil
    have bG6 : Hid (Box w6 g [k, fk] 59) := (hgr6.out.block g hgl8.out (fun e => hnG8.out e.symm)).trans bG8.out
    have cc6 := bG6.out.cell 1 rfl
    have f6 := bG6.out.unfrozen 1
    go_simp
    refine hK.out _ _ (cell_set (b := w.heap.size + 1) (T := g) hHeld (by omega) _) (fun hHeld => ?_)
    clear hK K
    refine wpAnyH_done (by kernel_rfl) ?_ _
    have hP9 : Hid (PoolAt (w6.setCell ⟨g, 1, none⟩ (.slice a6 (x.vFree.length + 1) c6)) LO g (x.vSlots.set p ⟨hGen + 1, false, ⟨#[]⟩⟩) ((p : Int) :: x.vFree) k (.slice a6 (x.vFree.length + 1) c6) fs _) := hmk.out w6 _ hcl6.out hgr6.out hat6h.out
    have bR6 : Box w6 (w.heap.size + 1 + 1) [.slice none 0 0, .slice none 0 0] 27 := (hgr6.out.block _ bR8.out.lt (fun e => hnR8.out e.symm)).trans bR8.out
    have bR9 : Hid (Box (w6.setCell ⟨g, 1, none⟩ (.slice a6 (x.vFree.length + 1) c6)) (w.heap.size + 1 + 1) [.slice none 0 0, .slice none 0 0] 27) := bR6.other (by omega) _
    clear bR6
    have hB9 : Below w.heap.size w (w6.setCell ⟨g, 1, none⟩ (.slice a6 (x.vFree.length + 1) c6)) := hB8.out w6 _ hgr6.out
    have hsz9 : Hid (w.heap.size + 1 + 1 < (World.heap (w6.setCell ⟨g, 1, none⟩ (.slice a6 (x.vFree.length + 1) c6))).size) := bR9.out.lt
    have q9 := bR9.out.cell 0 rfl
    have q9b := bR9.out.cell 1 rfl
    have q9u := bR9.out.unfrozen
    go_wp2_with fail
    refine (arena_any hP9.out (by simpa using hn2) (by simp; omega)).mono ?_
    rintro e w9 ⟨⟨csr, rfl, hansr⟩, hb9⟩
    have bRe : Hid (Box w9 (w.heap.size + 1 + 1) [.slice none 0 0, .slice none 0 0] 27) := bR9.out.below hb9 bR9.out.lt
    have hBe : Hid (Below w.heap.size w w9) := hB9.trans (hb9.mono hB9.size)
    have hansH : Hid (AnsA (w6.setCell ⟨g, 1, none⟩ (.slice a6 (x.vFree.length + 1) c6)) w9 csr ⟨x.vSlots.set p ⟨hGen + 1, false, ⟨#[]⟩⟩, (p : Int) :: x.vFree⟩) := hansr
    obtain ⟨_, ⟨_, _, _, _, rfl, ss, st, _⟩, _⟩ := hansr
    obtain ⟨pR, dR, rfl⟩ := ss.form
    obtain ⟨qR, eR, rfl⟩ := st.form
    simp only [List.length_set, List.length_cons] at hansH ⊢
    have t0 := bRe.out.cell 0 rfl
    have t1 := bRe.out.cell 1 rfl
    have tu := bRe.out.unfrozen
    clear ss st hb9 q9 q9b q9u
    go_wp2_with fail
    have bRf : Hid (Box (putCells w9 (w.heap.size + 1 + 1) 0 [.slice pR x.vSlots.length dR, .slice qR (x.vFree.length + 1) eR]) (w.heap.size + 1 + 1) [.slice pR x.vSlots.length dR, .slice qR (x.vFree.length + 1) eR] 27) := (bRe.out.set _).set _
    have e0_ := bRf.out.cell 0 rfl
    have e1_ := bRf.out.cell 1 rfl
    simp only [putCells, Nat.zero_add] at e0_ e1_
    have hBf : Hid (Below w.heap.size w (putCells w9 (w.heap.size + 1 + 1) 0 [.slice pR x.vSlots.length dR, .slice qR (x.vFree.length + 1) eR])) := putCells_below _ _ _ _ _ _ (by omega) hBe.out
    have hKf : Hid (∀ b, b ≠ w.heap.size + 1 + 1 → (putCells w9 (w.heap.size + 1 + 1) 0 [.slice pR x.vSlots.length dR, .slice qR (x.vFree.length + 1) eR]).heap[b]? = (World.heap w9)[b]?) := fun b n1 => putCells_other _ _ _ _ _ n1
    refine bodyPost_ret (v := .tuple #[.agg (List.toArray [.slice pR x.vSlots.length dR, .slice qR (x.vFree.length + 1) eR]), .bool true]) (by simp [results, Try.results19, go_sem, e0_, e1_]) rfl ⟨by rw [HD.out]; exact ⟨_, rfl, hansH.out.keep (fun b m => hKf.out b (by have h9 := hsz9.out; omega)) (by have h9 := hsz9.out; omega)⟩, hBf.out⟩
  · go_simp
    refine hK.out _ _ (cell_alloc hHeld _) (fun hHeld => ?_)
    clear hK K
    refine wpAnyH_ready (rs := [4]) (by kernel_rfl) (by simp) ?_
    refine AllReadyH.cons rfl (fun K hK => ?_) AllReadyH.nil
    have cF : (wa.alloc (.cells #[.int .i64 (p : Int)] 2)).drew.cell? ⟨g, 1, none⟩ = some fk := (show Box _ _ _ _ from bGd.out.alloc _).cell 1 rfl
    go_simp
    clear cF
    refine hK.out _ _ hHeld (fun hHeld => ?_)
    clear hK K
    refine wpAnyH_ready (rs := [8]) (by kernel_rfl) (by simp) ?_
    refine AllReadyH.cons rfl (fun K hK => ?_) AllReadyH.nil
    go_simp
    refine (insertI_any (w := (wa.drew.alloc (.cells #[.int .i64 (p : Int)] 2))) (base := LO) (vb := wa.heap.size) (h := (p : Int)) (TV := 2) hrw8.out.1 (by omega) hLO8.out hbx8.out hne8.out).mono ?_
    rintro e w6 ⟨⟨v6, rfl, ho6, hat6⟩, hg6⟩
    obtain ⟨a6, c6, rfl⟩ := row_form ho6
    have hcl6 : Hid _ := ho6
    have hgr6 : Hid _ := hg6
    have hat6h : Hid _ := hat6
    refine hK.out _ _ (cell_grown (by exact hHeld) hg6 hnH8.out) (fun hHeld => ?_)
    clear hK K
    refine tq (i := 9) (d := 43) ?_
    simp only [sz, ss]
    refine tq (i := 10) (d := 44) ?_
    simp only [sz, ss]
    refine wpAnyH_ready (rs := [11]) (by kernel_rfl) (by simp) ?_
    refine AllReadyH.cons rfl (fun K hK => ?_) AllReadyH.nil
    have bG6 : Hid (Box w6 g [k, fk] 59) := (hgr6.out.block g hgl8.out (fun e => hnG8.out e.symm)).trans bG8.out
    have cc6 := bG6.out.cell 1 rfl
    have f6 := bG6.out.unfrozen 1
    go_simp
    refine hK.out _ _ (cell_set (b := w.heap.size + 1) (T := g) hHeld (by omega) _) (fun hHeld => ?_)
    clear hK K
    refine wpAnyH_done (by kernel_rfl) ?_ _
    have hP9 : Hid (PoolAt (w6.setCell ⟨g, 1, none⟩ (.slice a6 (x.vFree.length + 1) c6)) LO g (x.vSlots.set p ⟨hGen + 1, false, ⟨#[]⟩⟩) ((p : Int) :: x.vFree) k (.slice a6 (x.vFree.length + 1) c6) fs _) := hmk.out w6 _ hcl6.out hgr6.out hat6h.out
    have bR6 : Box w6 (w.heap.size + 1 + 1) [.slice none 0 0, .slice none 0 0] 27 := (hgr6.out.block _ bR8.out.lt (fun e => hnR8.out e.symm)).trans bR8.out
    have bR9 : Hid (Box (w6.setCell ⟨g, 1, none⟩ (.slice a6 (x.vFree.length + 1) c6)) (w.heap.size + 1 + 1) [.slice none 0 0, .slice none 0 0] 27) := bR6.other (by omega) _
    clear bR6
    have hB9 : Below w.heap.size w (w6.setCell ⟨g, 1, none⟩ (.slice a6 (x.vFree.length + 1) c6)) := hB8.out w6 _ hgr6.out
    have hsz9 : Hid (w.heap.size + 1 + 1 < (World.heap (w6.setCell ⟨g, 1, none⟩ (.slice a6 (x.vFree.length + 1) c6))).size) := bR9.out.lt
    have q9 := bR9.out.cell 0 rfl
    have q9b := bR9.out.cell 1 rfl
    have q9u := bR9.out.unfrozen
    go_wp2_with fail
    refine (arena_any hP9.out (by simpa using hn2) (by simp; omega)).mono ?_
    rintro e w9 ⟨⟨csr, rfl, hansr⟩, hb9⟩
    have bRe : Hid (Box w9 (w.heap.size + 1 + 1) [.slice none 0 0, .slice none 0 0] 27) := bR9.out.below hb9 bR9.out.lt
    have hBe : Hid (Below w.heap.size w w9) := hB9.trans (hb9.mono hB9.size)
    have hansH : Hid (AnsA (w6.setCell ⟨g, 1, none⟩ (.slice a6 (x.vFree.length + 1) c6)) w9 csr ⟨x.vSlots.set p ⟨hGen + 1, false, ⟨#[]⟩⟩, (p : Int) :: x.vFree⟩) := hansr
    obtain ⟨_, ⟨_, _, _, _, rfl, ss, st, _⟩, _⟩ := hansr
    obtain ⟨pR, dR, rfl⟩ := ss.form
    obtain ⟨qR, eR, rfl⟩ := st.form
    simp only [List.length_set, List.length_cons] at hansH ⊢
    have t0 := bRe.out.cell 0 rfl
    have t1 := bRe.out.cell 1 rfl
    have tu := bRe.out.unfrozen
    clear ss st hb9 q9 q9b q9u
    go_wp2_with fail
    have bRf : Hid (Box (putCells w9 (w.heap.size + 1 + 1) 0 [.slice pR x.vSlots.length dR, .slice qR (x.vFree.length + 1) eR]) (w.heap.size + 1 + 1) [.slice pR x.vSlots.length dR, .slice qR (x.vFree.length + 1) eR] 27) := (bRe.out.set _).set _
    have e0_ := bRf.out.cell 0 rfl
    have e1_ := bRf.out.cell 1 rfl
    simp only [putCells, Nat.zero_add] at e0_ e1_
    have hBf : Hid (Below w.heap.size w (putCells w9 (w.heap.size + 1 + 1) 0 [.slice pR x.vSlots.length dR, .slice qR (x.vFree.length + 1) eR])) := putCells_below _ _ _ _ _ _ (by omega) hBe.out
    have hKf : Hid (∀ b, b ≠ w.heap.size + 1 + 1 → (putCells w9 (w.heap.size + 1 + 1) 0 [.slice pR x.vSlots.length dR, .slice qR (x.vFree.length + 1) eR]).heap[b]? = (World.heap w9)[b]?) := fun b n1 => putCells_other _ _ _ _ _ n1
    refine bodyPost_ret (v := .tuple #[.agg (List.toArray [.slice pR x.vSlots.length dR, .slice qR (x.vFree.length + 1) eR]), .bool true]) (by simp [results, Try.results19, go_sem, e0_, e1_]) rfl ⟨by rw [HD.out]; exact ⟨_, rfl, hansH.out.keep (fun b m => hKf.out b (by have h9 := hsz9.out; omega)) (by have h9 := hsz9.out; omega)⟩, hBf.out⟩

end Go.Proofs.Ytcbomaflfjdmjaa
