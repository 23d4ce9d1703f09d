/- Released of the specification, walked. -/
import Derived.Test.YtcbomaflfjdmjaaArStore
import Derived.Deep.Cut
namespace Go.Proofs.Ytcbomaflfjdmjaa
open Go.RowKit
/-- what Released answers -/
noncomputable def releasedD (x : ArenaD) (hAt hGen : Int) : ArenaD × Bool :=
  if liveB x hAt hGen && !decide (hGen = 1000000) then (⟨x.vSlots.set hAt.toNat ⟨hGen + 1, false, ⟨#[]⟩⟩, hAt :: x.vFree⟩, true) else (nilA, false)
theorem releasedD_dead {x : ArenaD} {a g : Int} (h : liveB x a g = false) : releasedD x a g = (nilA, false) := by simp [releasedD, h]
theorem releasedD_last {x : ArenaD} {a g : Int} (h : g = 1000000) : releasedD x a g = (nilA, false) := by simp [releasedD, h]
theorem releasedD_yes {x : ArenaD} {a g : Int} (h1 : liveB x a g = true) (h2 : ¬ g = 1000000) : releasedD x a g = (⟨x.vSlots.set a.toNat ⟨g + 1, false, ⟨#[]⟩⟩, a :: x.vFree⟩, true) := by simp [releasedD, h1, h2]
theorem row_one {w : World} {B : Nat} {v : Int} (hB : B ≤ w.heap.size) : (w.alloc (.cells #[.int .i64 v] 2)).ownsRow B 2 1 (.slice (some ⟨w.heap.size, 0, none⟩) 1 1) 1 [.int .i64 v] :=
  ⟨by simp, Or.inr ⟨_, _, #[.int .i64 v], rfl, hB, (MapKept.heap_alloc w _).1, Nat.le_refl _, by unfold maxLen; omega, by simp, by simp⟩⟩
theorem flat_cons {w w0 : World} {base lo : Nat} {v : Value} {p : Int} {xs : List Int} {css : List (List Value)} {a : Option Addr} (hk : CssAt 1 IntAt w0 lo a xs css) (hp : InI p) (h : w.ownsRow base 2 1 v (1 + xs.length) ([.int .i64 p] ++ css.flatten)) : ∃ fs, SeqOwn 1 IntOwn w v (p :: xs) fs ∧ (∀ b ∈ fs, base ≤ b) ∧ ∀ b ∈ fs, v.ownBlock = some b := by
  have hz : (((p :: xs).map fun _ => ([] : List Nat))).flatten = [] := by simp
  have hg : GrowOwn 2 1 IntOwn base w v (p :: xs) ((p :: xs).map fun _ => []) ([.int .i64 p] :: css) := by
    refine ⟨by simp [hk.1], by simp, fun cs q => ?_, ?_, fun i h1 h2 h3 => ?_, by rw [hz]; exact List.nodup_nil, fun b hb => ?_⟩
    · rcases List.mem_cons.1 q with e | e
      · rw [e]; rfl
      · exact hk.2.1 cs e
    · rw [List.length_cons, Nat.add_comm, List.flatten_cons]; exact h
    · cases i with
      | zero => exact ⟨rfl, hp, rfl⟩
      | succ i =>
        have h5 := hk.2.2.1 i (by simp at h2; omega) (by simp at h1; omega)
        simp only [List.getElem_cons_succ, List.map_cons, List.getElem_map]
        exact ⟨h5.1, h5.2, rfl⟩
    · rw [hz] at hb; cases hb
  exact hg.flat hz
set_option maxRecDepth 100000 in
set_option maxHeartbeats 4000000 in
theorem specReleased_any {w : World} {lo : Nat} {cs : List Value} {x : ArenaD} {hAt hGen : Int} (hx : ArenaAt w lo cs x) :
    Calls Try.prog 20 #[.agg cs.toArray, .agg #[.int .i64 hAt, .int .i64 hGen]] w fun e w' => AnsAB w w' (releasedD x hAt hGen) e ∧ Below w.heap.size w w' := by
  have hx' : Hid (ArenaAt w lo cs x) := hx
  obtain ⟨k0, k1, rfl, s0, s1, _⟩ := hx
  obtain ⟨a0, c0, rfl⟩ := s0.form
  obtain ⟨a1, c1, rfl⟩ := s1.form
  clear s0 s1
  have hb0 : Below w.heap.size w (((w.alloc (.cells (List.toArray [.slice a0 x.vSlots.length c0, .slice a1 x.vFree.length c1]) 27)).alloc (.cells (List.toArray [.int .i64 hAt, .int .i64 hGen]) 31)).alloc (.cells (List.toArray [.slice none 0 0, .slice none 0 0]) 27)) := (((Below.refl _ _).alloc (Nat.le_refl _) _).alloc (by simp) _).alloc (by simp; omega) _
  have bA0 : Hid (Box (((w.alloc (.cells (List.toArray [.slice a0 x.vSlots.length c0, .slice a1 x.vFree.length c1]) 27)).alloc (.cells (List.toArray [.int .i64 hAt, .int .i64 hGen]) 31)).alloc (.cells (List.toArray [.slice none 0 0, .slice none 0 0]) 27)) w.heap.size [.slice a0 x.vSlots.length c0, .slice a1 x.vFree.length c1] 27) := ((Box.new w _ _).alloc _).alloc _
  have bH0 : Hid (Box (((w.alloc (.cells (List.toArray [.slice a0 x.vSlots.length c0, .slice a1 x.vFree.length c1]) 27)).alloc (.cells (List.toArray [.int .i64 hAt, .int .i64 hGen]) 31)).alloc (.cells (List.toArray [.slice none 0 0, .slice none 0 0]) 27)) (w.heap.size + 1) [.int .i64 hAt, .int .i64 hGen] 31) := by have h5 := (Box.new (w.alloc (.cells (List.toArray [.slice a0 x.vSlots.length c0, .slice a1 x.vFree.length c1]) 27)) [.int .i64 hAt, .int .i64 hGen] 31).alloc (.cells (List.toArray [.slice none 0 0, .slice none 0 0]) 27); simpa [Hid] using h5
  have bR0 : Hid (Box (((w.alloc (.cells (List.toArray [.slice a0 x.vSlots.length c0, .slice a1 x.vFree.length c1]) 27)).alloc (.cells (List.toArray [.int .i64 hAt, .int .i64 hGen]) 31)).alloc (.cells (List.toArray [.slice none 0 0, .slice none 0 0]) 27)) (w.heap.size + 1 + 1) [.slice none 0 0, .slice none 0 0] 27) := by have h5 := Box.new ((w.alloc (.cells (List.toArray [.slice a0 x.vSlots.length c0, .slice a1 x.vFree.length c1]) 27)).alloc (.cells (List.toArray [.int .i64 hAt, .int .i64 hGen]) 31)) [.slice none 0 0, .slice none 0 0] 27; simpa [Hid] using h5
  have hxA : Hid (ArenaAt (((w.alloc (.cells (List.toArray [.slice a0 x.vSlots.length c0, .slice a1 x.vFree.length c1]) 27)).alloc (.cells (List.toArray [.int .i64 hAt, .int .i64 hGen]) 31)).alloc (.cells (List.toArray [.slice none 0 0, .slice none 0 0]) 27)) lo [.slice a0 x.vSlots.length c0, .slice a1 x.vFree.length c1] x) := ArenaAt_stays _ _ _ lo _ _ (.of_below hb0) hx'.out
  have hno : Hid (∀ w2 : World, AnsAB w w2 (nilA, false) (.returned (.tuple #[.agg #[.slice none 0 0, .slice none 0 0], .bool false]))) := fun w2 => ⟨[.slice none 0 0, .slice none 0 0], rfl, ansNil⟩
  go_enter Try.func20, Try.ntmps20
  go_wp2_with fail
  refine (l11Live_any hxA.out).mono ?_
  rintro e w1 ⟨rfl, hb1⟩
  have hB1 : Below w.heap.size w w1 := hb0.trans (hb1.mono hb0.size)
  have bA1 : Hid (Box w1 w.heap.size [.slice a0 x.vSlots.length c0, .slice a1 x.vFree.length c1] 27) := bA0.out.below hb1 bA0.out.lt
  have bH1 : Hid (Box w1 (w.heap.size + 1) [.int .i64 hAt, .int .i64 hGen] 31) := bH0.out.below hb1 bH0.out.lt
  have bR1 : Hid (Box w1 (w.heap.size + 1 + 1) [.slice none 0 0, .slice none 0 0] 27) := bR0.out.below hb1 bR0.out.lt
  have y0 := bA1.out.cell 0 rfl
  have y1 := bA1.out.cell 1 rfl
  have yh := bH1.out.cell 1 rfl
  have q0 := bR1.out.cell 0 rfl
  have q1 := bR1.out.cell 1 rfl
  have qu := bR1.out.unfrozen
  cases hL : liveB x hAt hGen with
  | false =>
    have HD : Hid _ := releasedD_dead hL
    go_wp2_with fail
    have bRf : Hid (Box (putCells w1 (w.heap.size + 1 + 1) 0 [.slice none 0 0, .slice none 0 0]) (w.heap.size + 1 + 1) [.slice none 0 0, .slice none 0 0] 27) := (bR1.out.set _).set _
    have e0_ := bRf.out.cell 0 rfl
    have e1_ := bRf.out.cell 1 rfl
    simp only [putCells, Nat.zero_add] at e0_ e1_
    have hBf : Hid (Below w.heap.size w (putCells w1 (w.heap.size + 1 + 1) 0 [.slice none 0 0, .slice none 0 0])) := putCells_below _ _ _ _ _ _ (by omega) hB1
    have hKf : Hid (∀ b, b ≠ w.heap.size + 1 + 1 → (putCells w1 (w.heap.size + 1 + 1) 0 [.slice none 0 0, .slice none 0 0]).heap[b]? = (World.heap w1)[b]?) := fun b n1 => putCells_other _ _ _ _ _ n1
    refine bodyPost_ret (v := .tuple #[.agg (List.toArray [.slice none 0 0, .slice none 0 0]), .bool false]) (by simp [results, Try.results20, go_sem, e0_, e1_]) rfl ⟨by rw [HD.out]; exact hno.out _, hBf.out⟩
  | true =>
  by_cases hG : hGen = 1000000
  · have HD : Hid _ := releasedD_last (x := x) (a := hAt) hG
    have hG' : (hGen == 1000000) = true := by simp [hG]
    go_wp2_with fail
    have bRf : Hid (Box (putCells w1 (w.heap.size + 1 + 1) 0 [.slice none 0 0, .slice none 0 0]) (w.heap.size + 1 + 1) [.slice none 0 0, .slice none 0 0] 27) := (bR1.out.set _).set _
    have e0_ := bRf.out.cell 0 rfl
    have e1_ := bRf.out.cell 1 rfl
    simp only [putCells, Nat.zero_add] at e0_ e1_
    have hBf : Hid (Below w.heap.size w (putCells w1 (w.heap.size + 1 + 1) 0 [.slice none 0 0, .slice none 0 0])) := putCells_below _ _ _ _ _ _ (by omega) hB1
    have hKf : Hid (∀ b, b ≠ w.heap.size + 1 + 1 → (putCells w1 (w.heap.size + 1 + 1) 0 [.slice none 0 0, .slice none 0 0]).heap[b]? = (World.heap w1)[b]?) := fun b n1 => putCells_other _ _ _ _ _ n1
    refine bodyPost_ret (v := .tuple #[.agg (List.toArray [.slice none 0 0, .slice none 0 0]), .bool false]) (by simp [results, Try.results20, go_sem, e0_, e1_]) rfl ⟨by rw [HD.out]; exact hno.out _, hBf.out⟩
  have hG' : (hGen == 1000000) = false := by simpa using hG
  obtain ⟨hy0, hi0, hp1, _, hge⟩ := liveB_iff.1 hL
  have hn2 : x.vSlots.length ≤ 12 := hy0.2.1
  have hn3 : x.vFree.length ≤ 12 := by have := hy0.2.2.1; omega
  have hgb : 1 ≤ hGen ∧ hGen ≤ 1000000 := by have h5 := hy0.2.2.2.1 _ hp1; rw [← hge]; exact ⟨h5.1, h5.2.1⟩
  have HD0 := releasedD_yes hL hG
  obtain ⟨p, rfl⟩ : ∃ p : Nat, hAt = (p : Int) := ⟨hAt.toNat, by omega⟩
  simp only [Int.toNat_natCast] at hp1 HD0
  have HD : Hid _ := HD0
  have hp2 : (p : Int) < (x.vSlots.length : Int) := by omega
  clear HD0 hy0 hge hG
  go_wp2_with fail
  refine (l11Copy_any (ArenaAt_stays _ _ _ lo _ _ (.of_below hb1) hxA.out) hn2 hn3).mono ?_
  rintro e w2 ⟨⟨csc, rfl, fs, hown, hnd, hlw⟩, hb2⟩
  have hB2 : Below w.heap.size w w2 := hB1.trans (hb2.mono hB1.size)
  have bH2 : Hid (Box w2 (w.heap.size + 1) [.int .i64 (p : Int), .int .i64 hGen] 31) := bH1.out.below hb2 bH1.out.lt
  have bR2 : Hid (Box w2 (w.heap.size + 1 + 1) [.slice none 0 0, .slice none 0 0] 27) := bR1.out.below hb2 bR1.out.lt
  obtain ⟨kS, kF, f0, f1, rfl, oS0, oF0, rfl⟩ := hown
  have hap : Hid (∀ b ∈ f0, b ∉ f1) := fun b m1 m2 => (List.nodup_append.1 hnd).2.2 b m1 b m2 rfl
  have hlS : Hid (∀ b ∈ f0, w1.heap.size ≤ b ∧ b < w2.heap.size) := fun b m => ⟨hlw b (List.mem_append_left _ m), oS0.lt SlotOwn_lt b m⟩
  have hlF : Hid (∀ b ∈ f1, w1.heap.size ≤ b ∧ b < w2.heap.size) := fun b m => ⟨hlw b (List.mem_append_right _ m), oF0.lt intOwn_lt b m⟩
  obtain ⟨pS, dS, rfl⟩ := oS0.form
  obtain ⟨pF, dF, rfl⟩ := oF0.form
  obtain ⟨bS, oS, C, Tt, csS, fj, rfl, hrow, hcl, ⟨mB, mN, _, _⟩, hr, hclose⟩ := oS0.step SlotOwn_stays SlotOwn_lt hp1
  have oFh : Hid (SeqOwn 1 IntOwn w2 (.slice pF x.vFree.length dF) x.vFree f1) := oF0
  have hrange : Hid (InI x.vSlots[p].vGen ∧ x.vSlots[p].vData.size ≤ maxLen) := ⟨hr.2.1, hr.2.2.1⟩
  have hclose' : Hid _ := hclose
  obtain ⟨rfl, _, _, rfl⟩ := hr
  have hrow' : Hid (RowIs w2 bS (oS + p * 3) C Tt [.int .i64 x.vSlots[p].vGen, .bool x.vSlots[p].vUsed, .string x.vSlots[p].vData]) := hrow
  have hS1 := (hlS.out bS mB).1
  have hS2 := (hlS.out bS mB).2
  have hlt2 : w1.heap.size ≤ w2.heap.size := hb2.size
  have hz1 : w.heap.size + 1 + 1 < w1.heap.size := bR1.out.lt
  clear hrow hclose oF0 oS0 hnd hlw mN hcl
  have bT : Hid (Box (w2.alloc (.cells (List.toArray [.slice (some ⟨bS, oS, none⟩) x.vSlots.length dS, .slice pF x.vFree.length dF]) 27)) w2.heap.size [.slice (some ⟨bS, oS, none⟩) x.vSlots.length dS, .slice pF x.vFree.length dF] 27) := Box.new w2 _ _
  have rowT : Hid (RowIs (w2.alloc (.cells (List.toArray [.slice (some ⟨bS, oS, none⟩) x.vSlots.length dS, .slice pF x.vFree.length dF]) 27)) bS (oS + p * 3) C Tt [.int .i64 x.vSlots[p].vGen, .bool x.vSlots[p].vUsed, .string x.vSlots[p].vData]) := hrow'.out.below ((Below.refl _ _).alloc (Nat.le_refl _) _)
  have bHT : Hid (Box (w2.alloc (.cells (List.toArray [.slice (some ⟨bS, oS, none⟩) x.vSlots.length dS, .slice pF x.vFree.length dF]) 27)) (w.heap.size + 1) [.int .i64 (p : Int), .int .i64 hGen] 31) := bH2.out.alloc _
  have bRT : Hid (Box (w2.alloc (.cells (List.toArray [.slice (some ⟨bS, oS, none⟩) x.vSlots.length dS, .slice pF x.vFree.length dF]) 27)) (w.heap.size + 1 + 1) [.slice none 0 0, .slice none 0 0] 27) := bR2.out.alloc _
  have hBT : Below w2.heap.size w2 (w2.alloc (.cells (List.toArray [.slice (some ⟨bS, oS, none⟩) x.vSlots.length dS, .slice pF x.vFree.length dF]) 27)) := (Below.refl _ _).alloc (Nat.le_refl _) _
  go_upto_region 4 with fail
  generalize (w2.alloc (.cells (List.toArray [.slice (some ⟨bS, oS, none⟩) x.vSlots.length dS, .slice pF x.vFree.length dF]) 27)) = wt at bT rowT bHT bRT hBT ⊢
  have t0 := bT.out.cell 0 rfl
  have h0_ := bHT.out.cell 0 rfl
  have h1_ := bHT.out.cell 1 rfl
  have x0_ := rowT.out.cell 0 rfl
  have x1_ := rowT.out.cell 1 rfl
  have x2_ := rowT.out.cell 2 rfl
  have xu_ := rowT.out.unfrozen
  simp only [Nat.add_zero] at x0_
  have rA := rowT.out.set (m := 0) (by simp) (.int .i64 (hGen + 1))
  have rB := rA.set (m := 1) (by simp) (.bool false)
  have rC := rB.set (m := 2) (by simp) (.string ⟨#[]⟩)
  simp only [Nat.add_zero] at rA rB rC
  have row4 : Hid (RowIs (((wt.setCell ⟨bS, oS + p * 3, none⟩ (.int .i64 (hGen + 1))).setCell ⟨bS, oS + p * 3 + 1, none⟩ (.bool false)).setCell ⟨bS, oS + p * 3 + 2, none⟩ (.string ⟨#[]⟩)) bS (oS + p * 3) C Tt [.int .i64 (hGen + 1), .bool false, .string ⟨#[]⟩]) := rC
  have xA1 := rA.cell 1 rfl
  have xA2 := rA.cell 2 rfl
  have xAu := rA.unfrozen
  have xB2 := rB.cell 2 rfl
  have xBu := rB.unfrozen
  have hO4 : Out [bS] w2 (((wt.setCell ⟨bS, oS + p * 3, none⟩ (.int .i64 (hGen + 1))).setCell ⟨bS, oS + p * 3 + 1, none⟩ (.bool false)).setCell ⟨bS, oS + p * 3 + 2, none⟩ (.string ⟨#[]⟩)) := (((Out.of_below hBT).set (by simp) _).set (by simp) _).set (by simp) _
  have bT4 : Hid (Box (((wt.setCell ⟨bS, oS + p * 3, none⟩ (.int .i64 (hGen + 1))).setCell ⟨bS, oS + p * 3 + 1, none⟩ (.bool false)).setCell ⟨bS, oS + p * 3 + 2, none⟩ (.string ⟨#[]⟩)) w2.heap.size [.slice (some ⟨bS, oS, none⟩) x.vSlots.length dS, .slice pF x.vFree.length dF] 27) := ((bT.out.other (by omega) _).other (by omega) _).other (by omega) _
  have bR4 : Hid (Box (((wt.setCell ⟨bS, oS + p * 3, none⟩ (.int .i64 (hGen + 1))).setCell ⟨bS, oS + p * 3 + 1, none⟩ (.bool false)).setCell ⟨bS, oS + p * 3 + 2, none⟩ (.string ⟨#[]⟩)) (w.heap.size + 1 + 1) [.slice none 0 0, .slice none 0 0] 27) := ((bRT.out.other (by omega) _).other (by omega) _).other (by omega) _
  have bH4 : Hid (Box (((wt.setCell ⟨bS, oS + p * 3, none⟩ (.int .i64 (hGen + 1))).setCell ⟨bS, oS + p * 3 + 1, none⟩ (.bool false)).setCell ⟨bS, oS + p * 3 + 2, none⟩ (.string ⟨#[]⟩)) (w.heap.size + 1) [.int .i64 (p : Int), .int .i64 hGen] 31) := ((bHT.out.other (by omega) _).other (by omega) _).other (by omega) _
  have hSeqS : Hid (SeqOwn 3 SlotOwn (((wt.setCell ⟨bS, oS + p * 3, none⟩ (.int .i64 (hGen + 1))).setCell ⟨bS, oS + p * 3 + 1, none⟩ (.bool false)).setCell ⟨bS, oS + p * 3 + 2, none⟩ (.string ⟨#[]⟩)) (.slice (some ⟨bS, oS, none⟩) x.vSlots.length dS) (x.vSlots.set p ⟨hGen + 1, false, ⟨#[]⟩⟩) f0) := hclose'.out _ [.int .i64 (hGen + 1), .bool false, .string ⟨#[]⟩] ⟨hGen + 1, false, ⟨#[]⟩⟩ rfl row4.out hO4 ⟨rfl, by show InI (hGen + 1); unfold InI; omega, by show (ByteArray.mk #[]).size ≤ maxLen; decide, rfl⟩
  have hSeqF : Hid (SeqOwn 1 IntOwn (((wt.setCell ⟨bS, oS + p * 3, none⟩ (.int .i64 (hGen + 1))).setCell ⟨bS, oS + p * 3 + 1, none⟩ (.bool false)).setCell ⟨bS, oS + p * 3 + 2, none⟩ (.string ⟨#[]⟩)) (.slice pF x.vFree.length dF) x.vFree f1) := oFh.out.stays intOwn_stays (fun b m => hO4.keep (hlF.out b m).2 (by simp; intro e; exact hap.out bS mB (e ▸ m)))
  have hB4 : Below w.heap.size w (((wt.setCell ⟨bS, oS + p * 3, none⟩ (.int .i64 (hGen + 1))).setCell ⟨bS, oS + p * 3 + 1, none⟩ (.bool false)).setCell ⟨bS, oS + p * 3 + 2, none⟩ (.string ⟨#[]⟩)) := hB2.trans (hO4.below hB2.size (fun b m => by simp at m; subst m; omega))
  have hs4 : w2.heap.size < (((wt.setCell ⟨bS, oS + p * 3, none⟩ (.int .i64 (hGen + 1))).setCell ⟨bS, oS + p * 3 + 1, none⟩ (.bool false)).setCell ⟨bS, oS + p * 3 + 2, none⟩ (.string ⟨#[]⟩)).heap.size := bT4.out.lt
  clear rA rB rC row4 hO4
  go_upto_region 5 with fail
  generalize (((wt.setCell ⟨bS, oS + p * 3, none⟩ (.int .i64 (hGen + 1))).setCell ⟨bS, oS + p * 3 + 1, none⟩ (.bool false)).setCell ⟨bS, oS + p * 3 + 2, none⟩ (.string ⟨#[]⟩)) = w4 at bT4 bR4 bH4 hSeqS hSeqF hB4 hs4 ⊢
  have t40 := bT4.out.cell 1 rfl
  have h40 := bH4.out.cell 0 rfl
  have hsF : SeqAt 1 IntAt w4 0 (.slice pF x.vFree.length dF) x.vFree := hSeqF.out.at intOwn_at (fun _ _ => Nat.zero_le _)
  obtain ⟨cssF, hcF⟩ := seq_css (by decide) hsF
  have hbW : Below w4.heap.size w4 (w4.alloc (.cells #[.int .i64 (p : Int)] 2)) := (Below.refl _ _).alloc (Nat.le_refl _) _
  have hc5 : Hid (CssAt 1 IntAt (w4.alloc (.cells #[.int .i64 (p : Int)] 2)) 0 pF x.vFree cssF) := css_below intAt_stays hcF hbW (Below.refl _ _)
  have hc4 : Hid (CssAt 1 IntAt w4 0 pF x.vFree cssF) := hcF
  have r5 : Hid (World.ownsRow (w4.alloc (.cells #[.int .i64 (p : Int)] 2)) w4.heap.size 2 1 (.slice (some ⟨w4.heap.size, 0, none⟩) 1 1) 1 [.int .i64 (p : Int)]) := row_one (Nat.le_refl _)
  have bT5 : Hid (Box (w4.alloc (.cells #[.int .i64 (p : Int)] 2)) w2.heap.size [.slice (some ⟨bS, oS, none⟩) x.vSlots.length dS, .slice pF x.vFree.length dF] 27) := bT4.out.alloc _
  have bR5 : Hid (Box (w4.alloc (.cells #[.int .i64 (p : Int)] 2)) (w.heap.size + 1 + 1) [.slice none 0 0, .slice none 0 0] 27) := bR4.out.alloc _
  have hB5 : Below w.heap.size w (w4.alloc (.cells #[.int .i64 (p : Int)] 2)) := hB4.trans (hbW.mono hB4.size)
  have t50 := bT5.out.cell 1 rfl
  obtain ⟨iI, hI0, hI1, hI2, hI3⟩ := infoI2
  have hiI : Hid (Try.prog.info? 2 = some iI) := hI0
  have heI : Hid (iI.zero = some (.int .i64 0) ∧ iI.size = 1 ∧ iI.bytes = 8) := ⟨hI1, hI2, hI3⟩
  clear hI0 hI1 hI2 hI3 hsF hcF t0 h0_ h1_ x0_ x1_ x2_ xu_ xA1 xA2 xAu xB2 xBu
  go_wp2_with (at_builtin; refine wpList_append_rows (w := (w4.alloc (.cells #[.int .i64 (p : Int)] 2))) (R := IntAt) rfl _ _ 25 rfl w4.heap.size 0 2 iI _ 8 Try.underlying25 hiI.out heI.out.1 heI.out.2.1 heI.out.2.2 rfl (by decide) (.slice (some ⟨w4.heap.size, 0, none⟩) 1 1) 1 [.int .i64 (p : Int)] rfl (by simp) r5.out pF dF x.vFree cssF rfl hc5.out (fun cs hcs u hu => one_of_int hc5.out cs hcs u hu) (by unfold maxLen; omega) (by omega) (by simp) ?_; intro vN w6 ho6 hg6 hn6 hat6; obtain ⟨pN, dN, rfl⟩ := row_form ho6; have r6 : Hid (World.ownsRow w6 w4.heap.size 2 1 (.slice pN (1 + x.vFree.length) dN) (1 + x.vFree.length) ([.int .i64 (p : Int)] ++ cssF.flatten)) := ho6; have hk6 : Hid (Below w4.heap.size (w4.alloc (.cells #[.int .i64 (p : Int)] 2)) w6) := (Below.refl _ _).grown hg6 (by simp) (fun k e => own_block2 r5.out k e); have bT6 : Hid (Box w6 w2.heap.size [.slice (some ⟨bS, oS, none⟩) x.vSlots.length dS, .slice pF x.vFree.length dF] 27) := (hk6.out.block _ (by omega)).trans bT5.out; have bR6 : Hid (Box w6 (w.heap.size + 1 + 1) [.slice none 0 0, .slice none 0 0] 27) := (hk6.out.block _ (by omega)).trans bR5.out; have u60 := bT6.out.cell 0 rfl; have u61 := bT6.out.cell 1 rfl; have u6u := bT6.out.unfrozen; have bT7 : Hid (Box (w6.setCell ⟨w2.heap.size, 1, none⟩ (.slice pN (1 + x.vFree.length) dN)) w2.heap.size [.slice (some ⟨bS, oS, none⟩) x.vSlots.length dS, .slice pN (1 + x.vFree.length) dN] 27) := bT6.out.set _; have bR7 : Hid (Box (w6.setCell ⟨w2.heap.size, 1, none⟩ (.slice pN (1 + x.vFree.length) dN)) (w.heap.size + 1 + 1) [.slice none 0 0, .slice none 0 0] 27) := bR6.out.other (by omega) _; have u70 := bT7.out.cell 0 rfl; have u71 := bT7.out.cell 1 rfl; have v70 := bR7.out.cell 0 rfl; have v71 := bR7.out.cell 1 rfl; have v7u := bR7.out.unfrozen; clear ho6)
  obtain ⟨fN, hN, hNl, hNo⟩ := flat_cons hc4.out (by unfold InI; omega) r6.out
  have hk7 : Hid (∀ b, b < w4.heap.size → b ≠ w2.heap.size → (w6.setCell ⟨w2.heap.size, 1, none⟩ (.slice pN (1 + x.vFree.length) dN)).heap[b]? = w4.heap[b]?) := fun b k1 k2 => ((set_other k2 _).trans (hk6.out.block b k1)).trans (hbW.block b k1)
  have hS7 := hSeqS.out.stays SlotOwn_stays (fun b m => hk7.out b (by have := (hlS.out b m).2; omega) (by have := (hlS.out b m).2; omega))
  have hN7 : SeqOwn 1 IntOwn (w6.setCell ⟨w2.heap.size, 1, none⟩ (.slice pN (1 + x.vFree.length) dN)) (.slice pN (1 + x.vFree.length) dN) ((p : Int) :: x.vFree) fN := hN.stays intOwn_stays (fun b m => set_other (by have := hNl b m; omega) _)
  have hans : Hid (∀ w', (∀ b, b ≠ w.heap.size + 1 + 1 → w'.heap[b]? = (w6.setCell ⟨w2.heap.size, 1, none⟩ (.slice pN (1 + x.vFree.length) dN)).heap[b]?) → AnsA w w' [.slice (some ⟨bS, oS, none⟩) x.vSlots.length dS, .slice pN (1 + x.vFree.length) dN] ⟨x.vSlots.set p ⟨hGen + 1, false, ⟨#[]⟩⟩, (p : Int) :: x.vFree⟩) := fun w' k => by
    refine ansRows (base := w1.heap.size) (hS7.stays SlotOwn_stays (fun b m => ?_)) (hN7.stays intOwn_stays (fun b m => ?_)) (fun b m => (hlS.out b m).1) (fun b m => ?_) (by omega) (fun b m1 m2 => ?_)
    · have := (hlS.out b m).1; exact k b (by omega)
    · have := hNl b m; exact k b (by omega)
    · have := hNl b m; omega
    · have h1 := (hlS.out b m1).2; have h2 := hNl b m2; omega
  have hB7 : Below w.heap.size w (w6.setCell ⟨w2.heap.size, 1, none⟩ (.slice pN (1 + x.vFree.length) dN)) := ((hB5.trans (hk6.out.mono hB4.size))).setCell (by exact hB2.size) _
  clear hS7 hN7 hN
  generalize (w6.setCell ⟨w2.heap.size, 1, none⟩ (.slice pN (1 + x.vFree.length) dN)) = w7 at bR7 hans hB7 ⊢
  have bRf : Hid (Box (putCells w7 (w.heap.size + 1 + 1) 0 [.slice (some ⟨bS, oS, none⟩) x.vSlots.length dS, .slice pN (1 + x.vFree.length) dN]) (w.heap.size + 1 + 1) [.slice (some ⟨bS, oS, none⟩) x.vSlots.length dS, .slice pN (1 + x.vFree.length) dN] 27) := (bR7.out.set _).set _
  have e0_ := bRf.out.cell 0 rfl
  have e1_ := bRf.out.cell 1 rfl
  simp only [putCells, Nat.zero_add] at e0_ e1_
  have hBf : Hid (Below w.heap.size w (putCells w7 (w.heap.size + 1 + 1) 0 [.slice (some ⟨bS, oS, none⟩) x.vSlots.length dS, .slice pN (1 + x.vFree.length) dN])) := putCells_below _ _ _ _ _ _ (by omega) hB7
  have hKf : Hid (∀ b, b ≠ w.heap.size + 1 + 1 → (putCells w7 (w.heap.size + 1 + 1) 0 [.slice (some ⟨bS, oS, none⟩) x.vSlots.length dS, .slice pN (1 + x.vFree.length) dN]).heap[b]? = (World.heap w7)[b]?) := fun b n1 => putCells_other _ _ _ _ _ n1
  refine bodyPost_ret (v := .tuple #[.agg (List.toArray [.slice (some ⟨bS, oS, none⟩) x.vSlots.length dS, .slice pN (1 + x.vFree.length) dN]), .bool true]) (by simp [results, Try.results20, go_sem, e0_, e1_]) rfl ⟨by rw [HD.out]; exact ⟨_, rfl, hans.out _ hKf.out⟩, hBf.out⟩
end Go.Proofs.Ytcbomaflfjdmjaa
