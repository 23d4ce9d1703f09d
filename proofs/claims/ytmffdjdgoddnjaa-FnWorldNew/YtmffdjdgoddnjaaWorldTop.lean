/- Worlds without posts, in memory; WorldNew of the specification and of the program, walked. -/
import Derived.Test.YtmffdjdgoddnjaaHeapNew
import Derived.Test.YtmffdjdgoddnjaaHeapSmall
import Derived.Test.YtmffdjdgoddnjaaGrowApp
import Derived.Test.YtmffdjdgoddnjaaTakeLit
import Derived.Deep.AppendLies
import Derived.Deep.RegionHeld3
namespace Go.Proofs.Ytmffdjdgoddnjaa
open Go.RowKit Go.Deep
theorem cell_allocW {w : World} {b i : Nat} {v : Value} (h : w.cell? ⟨b, i, none⟩ = some v) (o : Obj) : (w.alloc o).cell? ⟨b, i, none⟩ = some v := by
  rw [World.cell?_of_block (w := w) (w' := w.alloc o) (Below.heap_alloc _ _ _ (World.block_lt_of_cell? _ _ h))]; exact h
theorem outFarW {fs : List Nat} {a b c : World} (h : Out fs a b) (k : Below a.heap.size b c) : Out fs a c :=
  ⟨k.os.trans h.1, k.tape.trans h.2.1, k.output.trans h.2.2.1, Nat.le_trans h.2.2.2.1 k.size, fun x h1 h2 => (k.block x h1).trans (h.2.2.2.2 x h1 h2)⟩
theorem infoHeapW : ∃ i, Try.prog.info? 37 = some i ∧ i.zero = some (.agg #[.int .i64 0, .int .i64 0, .slice none 0 0, .slice none 0 0, .slice none 0 0]) ∧ i.size = 5 ∧ i.bytes = 88 := by
  have h : ((Try.prog.info? 37).map fun i => (i.zero, i.size, i.bytes)) = some (some (.agg #[.int .i64 0, .int .i64 0, .slice none 0 0, .slice none 0 0, .slice none 0 0]), 5, 88) := by kernel_rfl
  obtain ⟨i, hi, he⟩ := Option.map_eq_some_iff.1 h
  simp only [Prod.mk.injEq] at he
  exact ⟨i, hi, he.1, he.2.1, he.2.2⟩
def WorldAt (w : World) (lo : Nat) (cs : List Value) (hs : List HeapD) : Prop := ∃ k : Value, cs = [k, .slice none 0 0] ∧ SeqAt 5 HeapAt w lo k hs
def WorldOwn (w : World) (cs : List Value) (hs : List HeapD) (fs : List Nat) : Prop := ∃ k : Value, cs = [k, .slice none 0 0] ∧ SeqOwn 5 HeapOwn w k hs fs
theorem WorldOwn_stays : OwnStays WorldOwn := by
  intro w w' cs y fs h ⟨k, e, hh⟩
  exact ⟨k, e, hh.stays HeapOwn_stays h⟩
theorem WorldOwn_lt : OwnLt WorldOwn := by
  intro w cs y fs ⟨k, e, hh⟩
  exact hh.lt HeapOwn_lt
theorem WorldOwn_at {lo : Nat} (w : World) (cs : List Value) (y : List HeapD) (fs : List Nat) (h : WorldOwn w cs y fs) (hl : ∀ b ∈ fs, lo ≤ b) : WorldAt w lo cs y := by
  obtain ⟨k, e, hh⟩ := h
  exact ⟨k, e, hh.at (HeapOwn_at (lo := lo)) hl⟩
def newWorld (n : Int) : List HeapD × Bool := if inB n 2 3 = true then (List.replicate n.toNat newH, true) else ([], false)
theorem originCountOk_any {w : World} {n : Int} : Calls Try.prog 14 #[.int .i64 n] w fun e w' => e = .returned (.bool (inB n 2 3)) ∧ w' = w := by
  by_cases h1 : 2 ≤ n
  · by_cases h2 : n ≤ 3
    · have hv : inB n 2 3 = true := by simp [inB]; omega
      rw [hv]
      go_enter Try.func14, Try.ntmps14
      go_wp2_with fail
      go_ret
      simp
    · have hv : inB n 2 3 = false := by simp [inB]; omega
      rw [hv]
      go_enter Try.func14, Try.ntmps14
      go_wp2_with fail
      go_ret
      simp
  · have hv : inB n 2 3 = false := by simp [inB]; omega
    rw [hv]
    go_enter Try.func14, Try.ntmps14
    go_wp2_with fail
    go_ret
    simp
set_option maxRecDepth 100000 in
set_option maxHeartbeats 3000000 in
theorem specWorldNew_any {w : World} {n : Int} :
    Calls Try.prog 7 #[.int .i64 n] w fun e w' => (∃ cs fs, e = .returned (.tuple #[.agg cs.toArray, .bool (newWorld n).2]) ∧ WorldOwn w' cs (newWorld n).1 fs ∧ ∀ b ∈ fs, w.heap.size ≤ b) ∧ Below w.heap.size w w' := by
  obtain ⟨iH, hH0, hH1⟩ := infoHeapW
  have hiH : Hid (Try.prog.info? 37 = some iH) := hH0
  have heH : Hid _ := hH1
  clear hH0 hH1
  have bz0 : Box (w.alloc (.cells (List.toArray [.slice none 0 0, .slice none 0 0]) 28)) w.heap.size [.slice none 0 0, .slice none 0 0] 28 := Box.new w _ _
  have hb1 : Below w.heap.size w (w.alloc (.cells (List.toArray [.slice none 0 0, .slice none 0 0]) 28)) := (Below.refl _ _).alloc (Nat.le_refl _) _
  have hb2 : Below w.heap.size w ((w.alloc (.cells (List.toArray [.slice none 0 0, .slice none 0 0]) 28)).alloc (.cells (List.toArray [.slice none 0 0, .slice none 0 0]) 28)) := hb1.alloc (by simp) _
  have bzz : Hid (Box ((w.alloc (.cells (List.toArray [.slice none 0 0, .slice none 0 0]) 28)).alloc (.cells (List.toArray [.slice none 0 0, .slice none 0 0]) 28)) w.heap.size [.slice none 0 0, .slice none 0 0] 28) := bz0.alloc _
  have bT0 : Hid (Box ((w.alloc (.cells (List.toArray [.slice none 0 0, .slice none 0 0]) 28)).alloc (.cells (List.toArray [.slice none 0 0, .slice none 0 0]) 28)) (w.heap.size + 1) [.slice none 0 0, .slice none 0 0] 28) := by have h5 := Box.new (w.alloc (.cells (List.toArray [.slice none 0 0, .slice none 0 0]) 28)) [.slice none 0 0, .slice none 0 0] 28; simp only [World.size_alloc] at h5; exact h5
  have hz2 : ((w.alloc (.cells (List.toArray [.slice none 0 0, .slice none 0 0]) 28)).alloc (.cells (List.toArray [.slice none 0 0, .slice none 0 0]) 28)).heap.size = w.heap.size + 2 := by simp
  go_enter Try.func7, Try.ntmps7
  go_wp2_with fail
  refine (l1In_any _ _ _ _).mono ?_
  rintro e w' ⟨rfl, rfl⟩
  cases hv : inB n 2 3 with
  | false =>
    have hans : Hid (newWorld n = ([], false)) := by show newWorld n = _; unfold newWorld; rw [hv]; rfl
    have z0 := bz0.cell 0 rfl
    have z1 := bz0.cell 1 rfl
    have uz := bz0.unfrozen
    clear hv
    go_wp2_with fail
    refine bodyPost_ret (v := .tuple #[.agg #[.slice none 0 0, .slice none 0 0], .bool false]) (by simp [results, Try.results7, go_sem]) rfl ?_
    rw [hans.out]
    exact ⟨⟨[.slice none 0 0, .slice none 0 0], [], rfl, ⟨_, rfl, ownNil⟩, by simp⟩, hb1⟩
  | true =>
    obtain ⟨N, rfl⟩ : ∃ N : Nat, n = (N : Int) := ⟨n.toNat, by simp [inB] at hv; omega⟩
    have hN : N ≤ 3 := by simp [inB] at hv; omega
    have hans : Hid (newWorld (N : Int) = (List.replicate N newH, true)) := by show newWorld (N : Int) = _; unfold newWorld; rw [hv]; rfl
    clear hv
    go_wp2_with fail
    go_loopw [5] (fun i wr => ∃ (j : Nat) (av : Option Addr) (cv : Nat) (bss : List (List Nat)) (css : List (List Value)), j ≤ N ∧ i = .int .i64 j ∧ Hid (GrowOwn 37 5 HeapOwn (w.heap.size + 2) wr (.slice av j cv) (List.replicate j newH) bss css) ∧ Hid (Box wr (w.heap.size + 1) [.slice av j cv, .slice none 0 0] 28) ∧ Hid (Out [w.heap.size + 1] ((w.alloc (.cells (List.toArray [.slice none 0 0, .slice none 0 0]) 28)).alloc (.cells (List.toArray [.slice none 0 0, .slice none 0 0]) 28)) wr)) (fun i _ => N - (intOf i).toNat)
    case atStart => exact ⟨0, none, 0, [], [], by omega, rfl, GrowOwn.nil, bT0, Out.refl _ _⟩
    case round =>
      obtain ⟨j, av, cv, bss, css, hj, rfl, hgr, bTr, hout⟩ := hrel
      have hzr : w.heap.size + 2 ≤ wr.heap.size := by have := hout.out.2.2.2.1; rw [hz2] at this; exact this
      have hlenj : Hid ((List.replicate j newH).length = j) := by show _ = _; simp
      by_cases hlt : j < N
      · have hlt' : (j : Int) < (N : Int) := by omega
        go_wp2_with fail
        refine wp_region_held_drew (S := fun w' => True) (by kernel_rfl) trivial (fun hHeld => ?_)
        refine tq (i := 0) (d := 16) ?_
        simp only [sz, ss]
        refine wpAnyH_ready (rs := [1, 2]) (by kernel_rfl) (by simp) ?_
        refine (AllReadyH.cons rfl (fun K hK => ?_) (AllReadyH.cons rfl (fun K hK => ?_) AllReadyH.nil))
        · have cT : wr.drew.cell? ⟨w.heap.size + 1, 0, none⟩ = some (.slice av j cv) := bTr.out.cell 0 rfl
          go_simp
          clear cT
          refine hK.out _ _ hHeld (fun hHeld => ?_)
          clear hK K
          refine wpAnyH_ready (rs := [2]) (by kernel_rfl) (by simp) ?_
          refine AllReadyH.cons rfl (fun K hK => ?_) AllReadyH.nil
          go_simp
          refine specNew_any.mono ?_
          rintro e u1 ⟨⟨bn, rfl, ho1, lo1⟩, hq1⟩
          have hu1 : Hid (Below wr.heap.size wr u1) := undrew hq1
          have lo1' : wr.heap.size ≤ bn := by have := lo1; simpa using this
          have ho1' : Hid (HeapOwn u1 [.int .i64 2, .int .i64 1, .slice (some ⟨bn, 0, none⟩) 1 1, .slice none 0 0, .slice none 0 0] newH [bn]) := ho1
          have hbn : bn < u1.heap.size := HeapOwn_lt _ _ _ _ ho1 bn (by simp)
          have bT1 : Hid (Box u1 (w.heap.size + 1) [.slice av j cv, .slice none 0 0] 28) := bTr.out.below hu1.out bTr.out.lt
          clear ho1 lo1
          refine hK.out _ _ hHeld (fun hHeld => ?_)
          clear hK K
          refine wpAnyH_ready (rs := [3]) (by kernel_rfl) (by simp) ?_
          refine AllReadyH.cons rfl (fun K hK => ?_) AllReadyH.nil
          have bT2 : Hid (Box (u1.alloc (.cells (List.toArray [.int .i64 2, .int .i64 1, .slice (some ⟨bn, 0, none⟩) 1 1, .slice none 0 0, .slice none 0 0]) 37)) (w.heap.size + 1) [.slice av j cv, .slice none 0 0] 28) := bT1.out.alloc _
          go_simp
          refine hK.out _ _ hHeld (fun hHeld => ?_)
          clear hK K
          refine wpAnyH_ready (rs := [4]) (by kernel_rfl) (by simp) ?_
          refine AllReadyH.cons rfl (fun K hK => ?_) AllReadyH.nil
          refine step_append_lies (u1.alloc (.cells (List.toArray [.int .i64 2, .int .i64 1, .slice (some ⟨bn, 0, none⟩) 1 1, .slice none 0 0, .slice none 0 0]) 37)) rfl _ _ 25 rfl (w.heap.size + 2) 37 iH _ 5 88 Try.underlying25 hiH.out heH.out.1 heH.out.2.1 heH.out.2.2 rfl (by decide) (.slice av j cv) j css.flatten rfl (by have h5 := row_below hgr.out.2.2.2.1 (hu1.out.alloc hu1.out.size (.cells (List.toArray [.int .i64 2, .int .i64 1, .slice (some ⟨bn, 0, none⟩) 1 1, .slice none 0 0, .slice none 0 0]) 37)); rw [hlenj.out] at h5; exact h5) ⟨u1.heap.size, 0, none⟩ 1 1 [.int .i64 2, .int .i64 1, .slice (some ⟨bn, 0, none⟩) 1 1, .slice none 0 0, .slice none 0 0] rfl rfl (by intro i u hu; match i, hu with | 0, hu => (simp at hu; subst hu; simp [Addr.add]) | 1, hu => (simp at hu; subst hu; simp [Addr.add]) | 2, hu => (simp at hu; subst hu; simp [Addr.add]) | 3, hu => (simp at hu; subst hu; simp [Addr.add]) | 4, hu => (simp at hu; subst hu; simp [Addr.add]) | i + 5, hu => simp at hu) (by intro u hu; simp at hu; rcases hu with rfl | rfl | rfl | rfl <;> rfl) (by omega) (by unfold maxLen; omega) (by omega) (by have := hu1.out.size; simp; omega) _ rfl ?_
          intro g capg w3 hown3 hgrow3 hat3 hlt3
          have hb3 : Hid (Below (w.heap.size + 2) (u1.alloc (.cells (List.toArray [.int .i64 2, .int .i64 1, .slice (some ⟨bn, 0, none⟩) 1 1, .slice none 0 0, .slice none 0 0]) 37)) w3) := (Below.refl _ _).grown hgrow3 (by have := hu1.out.size; simp; omega) (fun k e => own_block2 hgr.out.2.2.2.1 k e)
          have bT3 : Hid (Box w3 (w.heap.size + 1) [.slice av j cv, .slice none 0 0] 28) := bT2.out.below hb3.out (by omega)
          go_simp
          refine hK.out _ _ hHeld (fun hHeld => ?_)
          clear hK K
          refine tq (i := 5) (d := 21) ?_
          simp only [sz, ss]
          refine wpAnyH_ready (rs := [6]) (by kernel_rfl) (by simp) ?_
          refine AllReadyH.cons rfl (fun K hK => ?_) AllReadyH.nil
          have cT3 := bT3.out.cell 0 rfl
          have fT3 := bT3.out.unfrozen
          go_simp
          refine hK.out _ _ hHeld (fun hHeld => ?_)
          clear hK K
          refine wpAnyH_done (by kernel_rfl) ?_ _
          clear cT3 fT3
          go_wp2_with fail
          go_roundw
          case rel =>
            have hsz1 := hu1.out.size
            have hg3 := GrowOwn.snoc HeapOwn_stays hgr.out (w2 := (u1.alloc (.cells (List.toArray [.int .i64 2, .int .i64 1, .slice (some ⟨bn, 0, none⟩) 1 1, .slice none 0 0, .slice none 0 0]) 37))) (hu1.out.alloc hsz1 _) (by omega) rfl (HeapOwn_stays _ _ _ _ _ (fun b qq => Below.heap_alloc _ _ _ (by simp at qq; omega)) ho1'.out) (by simp) (by simpa using lo1') (by simp; omega) (by rw [hlenj.out]) hown3 hgrow3 hat3
            refine ⟨j + 1, some ⟨g, 0, none⟩, capg, bss ++ [[bn]], css ++ [[.int .i64 2, .int .i64 1, .slice (some ⟨bn, 0, none⟩) 1 1, .slice none 0 0, .slice none 0 0]], by omega, by go_num, ?_, bT3.out.set (i := 0) _, ?_⟩
            · show GrowOwn _ _ _ _ _ _ _ _ _
              rw [List.replicate_succ']
              exact hg3.set HeapOwn_stays (by omega)
            · exact Out.set (outFarW hout.out (((hu1.out.mono (by simp; omega)).alloc (by simp; omega) _).trans (by have h5 := hb3.out; simpa using h5))) List.mem_cons_self _
          case measure => simp [intOf]; omega
        · go_simp
          refine specNew_any.mono ?_
          rintro e u1 ⟨⟨bn, rfl, ho1, lo1⟩, hq1⟩
          have hu1 : Hid (Below wr.heap.size wr u1) := undrew hq1
          have lo1' : wr.heap.size ≤ bn := by have := lo1; simpa using this
          have ho1' : Hid (HeapOwn u1 [.int .i64 2, .int .i64 1, .slice (some ⟨bn, 0, none⟩) 1 1, .slice none 0 0, .slice none 0 0] newH [bn]) := ho1
          have hbn : bn < u1.heap.size := HeapOwn_lt _ _ _ _ ho1 bn (by simp)
          have bT1 : Hid (Box u1 (w.heap.size + 1) [.slice av j cv, .slice none 0 0] 28) := bTr.out.below hu1.out bTr.out.lt
          clear ho1 lo1
          refine hK.out _ _ hHeld (fun hHeld => ?_)
          clear hK K
          refine wpAnyH_ready (rs := [1, 3]) (by kernel_rfl) (by simp) ?_
          refine (AllReadyH.cons rfl (fun K hK => ?_) (AllReadyH.cons rfl (fun K hK => ?_) AllReadyH.nil))
          · have cT : u1.cell? ⟨w.heap.size + 1, 0, none⟩ = some (.slice av j cv) := bT1.out.cell 0 rfl
            go_simp
            clear cT
            refine hK.out _ _ hHeld (fun hHeld => ?_)
            clear hK K
            refine wpAnyH_ready (rs := [3]) (by kernel_rfl) (by simp) ?_
            refine AllReadyH.cons rfl (fun K hK => ?_) AllReadyH.nil
            have bT2 : Hid (Box (u1.alloc (.cells (List.toArray [.int .i64 2, .int .i64 1, .slice (some ⟨bn, 0, none⟩) 1 1, .slice none 0 0, .slice none 0 0]) 37)) (w.heap.size + 1) [.slice av j cv, .slice none 0 0] 28) := bT1.out.alloc _
            go_simp
            refine hK.out _ _ hHeld (fun hHeld => ?_)
            clear hK K
            refine wpAnyH_ready (rs := [4]) (by kernel_rfl) (by simp) ?_
            refine AllReadyH.cons rfl (fun K hK => ?_) AllReadyH.nil
            refine step_append_lies (u1.alloc (.cells (List.toArray [.int .i64 2, .int .i64 1, .slice (some ⟨bn, 0, none⟩) 1 1, .slice none 0 0, .slice none 0 0]) 37)) rfl _ _ 25 rfl (w.heap.size + 2) 37 iH _ 5 88 Try.underlying25 hiH.out heH.out.1 heH.out.2.1 heH.out.2.2 rfl (by decide) (.slice av j cv) j css.flatten rfl (by have h5 := row_below hgr.out.2.2.2.1 (hu1.out.alloc hu1.out.size (.cells (List.toArray [.int .i64 2, .int .i64 1, .slice (some ⟨bn, 0, none⟩) 1 1, .slice none 0 0, .slice none 0 0]) 37)); rw [hlenj.out] at h5; exact h5) ⟨u1.heap.size, 0, none⟩ 1 1 [.int .i64 2, .int .i64 1, .slice (some ⟨bn, 0, none⟩) 1 1, .slice none 0 0, .slice none 0 0] rfl rfl (by intro i u hu; match i, hu with | 0, hu => (simp at hu; subst hu; simp [Addr.add]) | 1, hu => (simp at hu; subst hu; simp [Addr.add]) | 2, hu => (simp at hu; subst hu; simp [Addr.add]) | 3, hu => (simp at hu; subst hu; simp [Addr.add]) | 4, hu => (simp at hu; subst hu; simp [Addr.add]) | i + 5, hu => simp at hu) (by intro u hu; simp at hu; rcases hu with rfl | rfl | rfl | rfl <;> rfl) (by omega) (by unfold maxLen; omega) (by omega) (by have := hu1.out.size; simp; omega) _ rfl ?_
            intro g capg w3 hown3 hgrow3 hat3 hlt3
            have hb3 : Hid (Below (w.heap.size + 2) (u1.alloc (.cells (List.toArray [.int .i64 2, .int .i64 1, .slice (some ⟨bn, 0, none⟩) 1 1, .slice none 0 0, .slice none 0 0]) 37)) w3) := (Below.refl _ _).grown hgrow3 (by have := hu1.out.size; simp; omega) (fun k e => own_block2 hgr.out.2.2.2.1 k e)
            have bT3 : Hid (Box w3 (w.heap.size + 1) [.slice av j cv, .slice none 0 0] 28) := bT2.out.below hb3.out (by omega)
            go_simp
            refine hK.out _ _ hHeld (fun hHeld => ?_)
            clear hK K
            refine tq (i := 5) (d := 21) ?_
            simp only [sz, ss]
            refine wpAnyH_ready (rs := [6]) (by kernel_rfl) (by simp) ?_
            refine AllReadyH.cons rfl (fun K hK => ?_) AllReadyH.nil
            have cT3 := bT3.out.cell 0 rfl
            have fT3 := bT3.out.unfrozen
            go_simp
            refine hK.out _ _ hHeld (fun hHeld => ?_)
            clear hK K
            refine wpAnyH_done (by kernel_rfl) ?_ _
            clear cT3 fT3
            go_wp2_with fail
            go_roundw
            case rel =>
              have hsz1 := hu1.out.size
              have hg3 := GrowOwn.snoc HeapOwn_stays hgr.out (w2 := (u1.alloc (.cells (List.toArray [.int .i64 2, .int .i64 1, .slice (some ⟨bn, 0, none⟩) 1 1, .slice none 0 0, .slice none 0 0]) 37))) (hu1.out.alloc hsz1 _) (by omega) rfl (HeapOwn_stays _ _ _ _ _ (fun b qq => Below.heap_alloc _ _ _ (by simp at qq; omega)) ho1'.out) (by simp) (by simpa using lo1') (by simp; omega) (by rw [hlenj.out]) hown3 hgrow3 hat3
              refine ⟨j + 1, some ⟨g, 0, none⟩, capg, bss ++ [[bn]], css ++ [[.int .i64 2, .int .i64 1, .slice (some ⟨bn, 0, none⟩) 1 1, .slice none 0 0, .slice none 0 0]], by omega, by go_num, ?_, bT3.out.set (i := 0) _, ?_⟩
              · show GrowOwn _ _ _ _ _ _ _ _ _
                rw [List.replicate_succ']
                exact hg3.set HeapOwn_stays (by omega)
              · exact Out.set (outFarW hout.out (((hu1.out.mono (by simp; omega)).alloc (by simp; omega) _).trans (by have h5 := hb3.out; simpa using h5))) List.mem_cons_self _
            case measure => simp [intOf]; omega
          · have bT2 : Hid (Box (u1.alloc (.cells (List.toArray [.int .i64 2, .int .i64 1, .slice (some ⟨bn, 0, none⟩) 1 1, .slice none 0 0, .slice none 0 0]) 37)) (w.heap.size + 1) [.slice av j cv, .slice none 0 0] 28) := bT1.out.alloc _
            go_simp
            refine hK.out _ _ hHeld (fun hHeld => ?_)
            clear hK K
            refine wpAnyH_ready (rs := [1]) (by kernel_rfl) (by simp) ?_
            refine AllReadyH.cons rfl (fun K hK => ?_) AllReadyH.nil
            have cT : (u1.alloc (.cells (List.toArray [.int .i64 2, .int .i64 1, .slice (some ⟨bn, 0, none⟩) 1 1, .slice none 0 0, .slice none 0 0]) 37)).cell? ⟨w.heap.size + 1, 0, none⟩ = some (.slice av j cv) := bT2.out.cell 0 rfl
            go_simp
            clear cT
            refine hK.out _ _ hHeld (fun hHeld => ?_)
            clear hK K
            refine wpAnyH_ready (rs := [4]) (by kernel_rfl) (by simp) ?_
            refine AllReadyH.cons rfl (fun K hK => ?_) AllReadyH.nil
            refine step_append_lies (u1.alloc (.cells (List.toArray [.int .i64 2, .int .i64 1, .slice (some ⟨bn, 0, none⟩) 1 1, .slice none 0 0, .slice none 0 0]) 37)) rfl _ _ 25 rfl (w.heap.size + 2) 37 iH _ 5 88 Try.underlying25 hiH.out heH.out.1 heH.out.2.1 heH.out.2.2 rfl (by decide) (.slice av j cv) j css.flatten rfl (by have h5 := row_below hgr.out.2.2.2.1 (hu1.out.alloc hu1.out.size (.cells (List.toArray [.int .i64 2, .int .i64 1, .slice (some ⟨bn, 0, none⟩) 1 1, .slice none 0 0, .slice none 0 0]) 37)); rw [hlenj.out] at h5; exact h5) ⟨u1.heap.size, 0, none⟩ 1 1 [.int .i64 2, .int .i64 1, .slice (some ⟨bn, 0, none⟩) 1 1, .slice none 0 0, .slice none 0 0] rfl rfl (by intro i u hu; match i, hu with | 0, hu => (simp at hu; subst hu; simp [Addr.add]) | 1, hu => (simp at hu; subst hu; simp [Addr.add]) | 2, hu => (simp at hu; subst hu; simp [Addr.add]) | 3, hu => (simp at hu; subst hu; simp [Addr.add]) | 4, hu => (simp at hu; subst hu; simp [Addr.add]) | i + 5, hu => simp at hu) (by intro u hu; simp at hu; rcases hu with rfl | rfl | rfl | rfl <;> rfl) (by omega) (by unfold maxLen; omega) (by omega) (by have := hu1.out.size; simp; omega) _ rfl ?_
            intro g capg w3 hown3 hgrow3 hat3 hlt3
            have hb3 : Hid (Below (w.heap.size + 2) (u1.alloc (.cells (List.toArray [.int .i64 2, .int .i64 1, .slice (some ⟨bn, 0, none⟩) 1 1, .slice none 0 0, .slice none 0 0]) 37)) w3) := (Below.refl _ _).grown hgrow3 (by have := hu1.out.size; simp; omega) (fun k e => own_block2 hgr.out.2.2.2.1 k e)
            have bT3 : Hid (Box w3 (w.heap.size + 1) [.slice av j cv, .slice none 0 0] 28) := bT2.out.below hb3.out (by omega)
            go_simp
            refine hK.out _ _ hHeld (fun hHeld => ?_)
            clear hK K
            refine tq (i := 5) (d := 21) ?_
            simp only [sz, ss]
            refine wpAnyH_ready (rs := [6]) (by kernel_rfl) (by simp) ?_
            refine AllReadyH.cons rfl (fun K hK => ?_) AllReadyH.nil
            have cT3 := bT3.out.cell 0 rfl
            have fT3 := bT3.out.unfrozen
            go_simp
            refine hK.out _ _ hHeld (fun hHeld => ?_)
            clear hK K
            refine wpAnyH_done (by kernel_rfl) ?_ _
            clear cT3 fT3
            go_wp2_with fail
            go_roundw
            case rel =>
              have hsz1 := hu1.out.size
              have hg3 := GrowOwn.snoc HeapOwn_stays hgr.out (w2 := (u1.alloc (.cells (List.toArray [.int .i64 2, .int .i64 1, .slice (some ⟨bn, 0, none⟩) 1 1, .slice none 0 0, .slice none 0 0]) 37))) (hu1.out.alloc hsz1 _) (by omega) rfl (HeapOwn_stays _ _ _ _ _ (fun b qq => Below.heap_alloc _ _ _ (by simp at qq; omega)) ho1'.out) (by simp) (by simpa using lo1') (by simp; omega) (by rw [hlenj.out]) hown3 hgrow3 hat3
              refine ⟨j + 1, some ⟨g, 0, none⟩, capg, bss ++ [[bn]], css ++ [[.int .i64 2, .int .i64 1, .slice (some ⟨bn, 0, none⟩) 1 1, .slice none 0 0, .slice none 0 0]], by omega, by go_num, ?_, bT3.out.set (i := 0) _, ?_⟩
              · show GrowOwn _ _ _ _ _ _ _ _ _
                rw [List.replicate_succ']
                exact hg3.set HeapOwn_stays (by omega)
              · exact Out.set (outFarW hout.out (((hu1.out.mono (by simp; omega)).alloc (by simp; omega) _).trans (by have h5 := hb3.out; simpa using h5))) List.mem_cons_self _
            case measure => simp [intOf]; omega
      · obtain rfl : j = N := by omega
        have bzr : Box wr w.heap.size [.slice none 0 0, .slice none 0 0] 28 := (hout.out.keep bzz.out.lt (by simp)).trans bzz.out
        have hBr : Below w.heap.size w wr := hb2.trans (hout.out.below (by rw [hz2]; omega) (by simp))
        obtain ⟨fs, hso, hlo⟩ := hgr.out.done
        have hso' : Hid (SeqOwn 5 HeapOwn wr (.slice av j cv) (List.replicate j newH) fs) := hso
        have hlo' : Hid (∀ b ∈ fs, w.heap.size + 2 ≤ b) := hlo
        have cT0 := bTr.out.cell 0 rfl
        have cT1 := bTr.out.cell 1 rfl
        have z0 := bzr.cell 0 rfl
        have z1 := bzr.cell 1 rfl
        have uz := bzr.unfrozen
        clear hso hlo
        go_wp2_with fail
        have bF := (bzr.set (i := 0) (.slice av j cv)).set (i := 1) (.slice none 0 0)
        have r0 := bF.cell 0 rfl
        have r1 := bF.cell 1 rfl
        refine bodyPost_ret (v := .tuple #[.agg #[.slice av j cv, .slice none 0 0], .bool true]) (by simp [results, Try.results7, go_sem, r0, r1]) rfl ?_
        rw [hans.out]
        exact ⟨⟨[.slice av j cv, .slice none 0 0], fs, rfl, ⟨_, rfl, hso'.out.stays HeapOwn_stays (fun b qq => by have := hlo'.out b qq; rw [set_other (by omega), set_other (by omega)])⟩, fun b qq => by have := hlo'.out b qq; omega⟩, (hBr.setCell (by simp) _).setCell (by simp) _⟩
set_option maxRecDepth 100000 in
set_option maxHeartbeats 3000000 in
theorem implWorldNew_any {w : World} {n : Int} :
    Calls Try.prog 6 #[.int .i64 n] w fun e w' => (∃ cs fs, e = .returned (.tuple #[.agg cs.toArray, .bool (newWorld n).2]) ∧ WorldOwn w' cs (newWorld n).1 fs ∧ ∀ b ∈ fs, w.heap.size ≤ b) ∧ Below w.heap.size w w' := by
  obtain ⟨iH, hH0, hH1⟩ := infoHeapW
  have hiH : Hid (Try.prog.info? 37 = some iH) := hH0
  have heH : Hid _ := hH1
  clear hH0 hH1
  have bz0 : Box (w.alloc (.cells (List.toArray [.slice none 0 0, .slice none 0 0]) 28)) w.heap.size [.slice none 0 0, .slice none 0 0] 28 := Box.new w _ _
  have hb1 : Below w.heap.size w (w.alloc (.cells (List.toArray [.slice none 0 0, .slice none 0 0]) 28)) := (Below.refl _ _).alloc (Nat.le_refl _) _
  have hb2 : Below w.heap.size w ((w.alloc (.cells (List.toArray [.slice none 0 0, .slice none 0 0]) 28)).alloc (.cells (List.toArray [.slice none 0 0, .slice none 0 0]) 28)) := hb1.alloc (by simp) _
  have bzz : Hid (Box ((w.alloc (.cells (List.toArray [.slice none 0 0, .slice none 0 0]) 28)).alloc (.cells (List.toArray [.slice none 0 0, .slice none 0 0]) 28)) w.heap.size [.slice none 0 0, .slice none 0 0] 28) := bz0.alloc _
  have bT0 : Hid (Box ((w.alloc (.cells (List.toArray [.slice none 0 0, .slice none 0 0]) 28)).alloc (.cells (List.toArray [.slice none 0 0, .slice none 0 0]) 28)) (w.heap.size + 1) [.slice none 0 0, .slice none 0 0] 28) := by have h5 := Box.new (w.alloc (.cells (List.toArray [.slice none 0 0, .slice none 0 0]) 28)) [.slice none 0 0, .slice none 0 0] 28; simp only [World.size_alloc] at h5; exact h5
  have hz2 : ((w.alloc (.cells (List.toArray [.slice none 0 0, .slice none 0 0]) 28)).alloc (.cells (List.toArray [.slice none 0 0, .slice none 0 0]) 28)).heap.size = w.heap.size + 2 := by simp
  go_enter Try.func6, Try.ntmps6
  go_wp2_with fail
  refine originCountOk_any.mono ?_
  rintro e w' ⟨rfl, rfl⟩
  cases hv : inB n 2 3 with
  | false =>
    have hans : Hid (newWorld n = ([], false)) := by show newWorld n = _; unfold newWorld; rw [hv]; rfl
    have z0 := bz0.cell 0 rfl
    have z1 := bz0.cell 1 rfl
    have uz := bz0.unfrozen
    clear hv
    go_wp2_with fail
    refine bodyPost_ret (v := .tuple #[.agg #[.slice none 0 0, .slice none 0 0], .bool false]) (by simp [results, Try.results6, go_sem]) rfl ?_
    rw [hans.out]
    exact ⟨⟨[.slice none 0 0, .slice none 0 0], [], rfl, ⟨_, rfl, ownNil⟩, by simp⟩, hb1⟩
  | true =>
    obtain ⟨N, rfl⟩ : ∃ N : Nat, n = (N : Int) := ⟨n.toNat, by simp [inB] at hv; omega⟩
    have hN : N ≤ 3 := by simp [inB] at hv; omega
    have hans : Hid (newWorld (N : Int) = (List.replicate N newH, true)) := by show newWorld (N : Int) = _; unfold newWorld; rw [hv]; rfl
    clear hv
    go_wp2_with fail
    go_loopw [10] (fun i wr => ∃ (j : Nat) (av : Option Addr) (cv : Nat) (bss : List (List Nat)) (css : List (List Value)), j ≤ N ∧ i = .int .i64 j ∧ Hid (GrowOwn 37 5 HeapOwn (w.heap.size + 2) wr (.slice av j cv) (List.replicate j newH) bss css) ∧ Hid (Box wr (w.heap.size + 1) [.slice av j cv, .slice none 0 0] 28) ∧ Hid (Out [w.heap.size + 1] ((w.alloc (.cells (List.toArray [.slice none 0 0, .slice none 0 0]) 28)).alloc (.cells (List.toArray [.slice none 0 0, .slice none 0 0]) 28)) wr)) (fun i _ => N - (intOf i).toNat)
    case atStart => exact ⟨0, none, 0, [], [], by omega, rfl, GrowOwn.nil, bT0, Out.refl _ _⟩
    case round =>
      obtain ⟨j, av, cv, bss, css, hj, rfl, hgr, bTr, hout⟩ := hrel
      have hzr : w.heap.size + 2 ≤ wr.heap.size := by have := hout.out.2.2.2.1; rw [hz2] at this; exact this
      have hlenj : Hid ((List.replicate j newH).length = j) := by show _ = _; simp
      by_cases hlt : j < N
      · have hlt' : (j : Int) < (N : Int) := by omega
        go_wp2_with fail
        refine wp_region_held_drew (S := fun w' => True) (by kernel_rfl) trivial (fun hHeld => ?_)
        refine tq (i := 0) (d := 12) ?_
        simp only [sz, ss]
        refine wpAnyH_ready (rs := [1, 2]) (by kernel_rfl) (by simp) ?_
        refine (AllReadyH.cons rfl (fun K hK => ?_) (AllReadyH.cons rfl (fun K hK => ?_) AllReadyH.nil))
        · have cT : wr.drew.cell? ⟨w.heap.size + 1, 0, none⟩ = some (.slice av j cv) := bTr.out.cell 0 rfl
          go_simp
          clear cT
          refine hK.out _ _ hHeld (fun hHeld => ?_)
          clear hK K
          refine wpAnyH_ready (rs := [2]) (by kernel_rfl) (by simp) ?_
          refine AllReadyH.cons rfl (fun K hK => ?_) AllReadyH.nil
          go_simp
          refine implNew_any.mono ?_
          rintro e u1 ⟨⟨bn, rfl, ho1, lo1⟩, hq1⟩
          have hu1 : Hid (Below wr.heap.size wr u1) := undrew hq1
          have lo1' : wr.heap.size ≤ bn := by have := lo1; simpa using this
          have ho1' : Hid (HeapOwn u1 [.int .i64 2, .int .i64 1, .slice (some ⟨bn, 0, none⟩) 1 1, .slice none 0 0, .slice none 0 0] newH [bn]) := ho1
          have hbn : bn < u1.heap.size := HeapOwn_lt _ _ _ _ ho1 bn (by simp)
          have bT1 : Hid (Box u1 (w.heap.size + 1) [.slice av j cv, .slice none 0 0] 28) := bTr.out.below hu1.out bTr.out.lt
          clear ho1 lo1
          refine hK.out _ _ hHeld (fun hHeld => ?_)
          clear hK K
          refine wpAnyH_ready (rs := [3]) (by kernel_rfl) (by simp) ?_
          refine AllReadyH.cons rfl (fun K hK => ?_) AllReadyH.nil
          have bT2 : Hid (Box (u1.alloc (.cells (List.toArray [.int .i64 2, .int .i64 1, .slice (some ⟨bn, 0, none⟩) 1 1, .slice none 0 0, .slice none 0 0]) 37)) (w.heap.size + 1) [.slice av j cv, .slice none 0 0] 28) := bT1.out.alloc _
          go_simp
          refine hK.out _ _ hHeld (fun hHeld => ?_)
          clear hK K
          refine wpAnyH_ready (rs := [4]) (by kernel_rfl) (by simp) ?_
          refine AllReadyH.cons rfl (fun K hK => ?_) AllReadyH.nil
          refine step_append_lies (u1.alloc (.cells (List.toArray [.int .i64 2, .int .i64 1, .slice (some ⟨bn, 0, none⟩) 1 1, .slice none 0 0, .slice none 0 0]) 37)) rfl _ _ 25 rfl (w.heap.size + 2) 37 iH _ 5 88 Try.underlying25 hiH.out heH.out.1 heH.out.2.1 heH.out.2.2 rfl (by decide) (.slice av j cv) j css.flatten rfl (by have h5 := row_below hgr.out.2.2.2.1 (hu1.out.alloc hu1.out.size (.cells (List.toArray [.int .i64 2, .int .i64 1, .slice (some ⟨bn, 0, none⟩) 1 1, .slice none 0 0, .slice none 0 0]) 37)); rw [hlenj.out] at h5; exact h5) ⟨u1.heap.size, 0, none⟩ 1 1 [.int .i64 2, .int .i64 1, .slice (some ⟨bn, 0, none⟩) 1 1, .slice none 0 0, .slice none 0 0] rfl rfl (by intro i u hu; match i, hu with | 0, hu => (simp at hu; subst hu; simp [Addr.add]) | 1, hu => (simp at hu; subst hu; simp [Addr.add]) | 2, hu => (simp at hu; subst hu; simp [Addr.add]) | 3, hu => (simp at hu; subst hu; simp [Addr.add]) | 4, hu => (simp at hu; subst hu; simp [Addr.add]) | i + 5, hu => simp at hu) (by intro u hu; simp at hu; rcases hu with rfl | rfl | rfl | rfl <;> rfl) (by omega) (by unfold maxLen; omega) (by omega) (by have := hu1.out.size; simp; omega) _ rfl ?_
          intro g capg w3 hown3 hgrow3 hat3 hlt3
          have hb3 : Hid (Below (w.heap.size + 2) (u1.alloc (.cells (List.toArray [.int .i64 2, .int .i64 1, .slice (some ⟨bn, 0, none⟩) 1 1, .slice none 0 0, .slice none 0 0]) 37)) w3) := (Below.refl _ _).grown hgrow3 (by have := hu1.out.size; simp; omega) (fun k e => own_block2 hgr.out.2.2.2.1 k e)
          have bT3 : Hid (Box w3 (w.heap.size + 1) [.slice av j cv, .slice none 0 0] 28) := bT2.out.below hb3.out (by omega)
          go_simp
          refine hK.out _ _ hHeld (fun hHeld => ?_)
          clear hK K
          refine tq (i := 5) (d := 17) ?_
          simp only [sz, ss]
          refine wpAnyH_ready (rs := [6]) (by kernel_rfl) (by simp) ?_
          refine AllReadyH.cons rfl (fun K hK => ?_) AllReadyH.nil
          have cT3 := bT3.out.cell 0 rfl
          have fT3 := bT3.out.unfrozen
          go_simp
          refine hK.out _ _ hHeld (fun hHeld => ?_)
          clear hK K
          refine wpAnyH_done (by kernel_rfl) ?_ _
          clear cT3 fT3
          go_wp2_with fail
          go_roundw
          case rel =>
            have hsz1 := hu1.out.size
            have hg3 := GrowOwn.snoc HeapOwn_stays hgr.out (w2 := (u1.alloc (.cells (List.toArray [.int .i64 2, .int .i64 1, .slice (some ⟨bn, 0, none⟩) 1 1, .slice none 0 0, .slice none 0 0]) 37))) (hu1.out.alloc hsz1 _) (by omega) rfl (HeapOwn_stays _ _ _ _ _ (fun b qq => Below.heap_alloc _ _ _ (by simp at qq; omega)) ho1'.out) (by simp) (by simpa using lo1') (by simp; omega) (by rw [hlenj.out]) hown3 hgrow3 hat3
            refine ⟨j + 1, some ⟨g, 0, none⟩, capg, bss ++ [[bn]], css ++ [[.int .i64 2, .int .i64 1, .slice (some ⟨bn, 0, none⟩) 1 1, .slice none 0 0, .slice none 0 0]], by omega, by go_num, ?_, bT3.out.set (i := 0) _, ?_⟩
            · show GrowOwn _ _ _ _ _ _ _ _ _
              rw [List.replicate_succ']
              exact hg3.set HeapOwn_stays (by omega)
            · exact Out.set (outFarW hout.out (((hu1.out.mono (by simp; omega)).alloc (by simp; omega) _).trans (by have h5 := hb3.out; simpa using h5))) List.mem_cons_self _
          case measure => simp [intOf]; omega
        · go_simp
          refine implNew_any.mono ?_
          rintro e u1 ⟨⟨bn, rfl, ho1, lo1⟩, hq1⟩
          have hu1 : Hid (Below wr.heap.size wr u1) := undrew hq1
          have lo1' : wr.heap.size ≤ bn := by have := lo1; simpa using this
          have ho1' : Hid (HeapOwn u1 [.int .i64 2, .int .i64 1, .slice (some ⟨bn, 0, none⟩) 1 1, .slice none 0 0, .slice none 0 0] newH [bn]) := ho1
          have hbn : bn < u1.heap.size := HeapOwn_lt _ _ _ _ ho1 bn (by simp)
          have bT1 : Hid (Box u1 (w.heap.size + 1) [.slice av j cv, .slice none 0 0] 28) := bTr.out.below hu1.out bTr.out.lt
          clear ho1 lo1
          refine hK.out _ _ hHeld (fun hHeld => ?_)
          clear hK K
          refine wpAnyH_ready (rs := [1, 3]) (by kernel_rfl) (by simp) ?_
          refine (AllReadyH.cons rfl (fun K hK => ?_) (AllReadyH.cons rfl (fun K hK => ?_) AllReadyH.nil))
          · have cT : u1.cell? ⟨w.heap.size + 1, 0, none⟩ = some (.slice av j cv) := bT1.out.cell 0 rfl
            go_simp
            clear cT
            refine hK.out _ _ hHeld (fun hHeld => ?_)
            clear hK K
            refine wpAnyH_ready (rs := [3]) (by kernel_rfl) (by simp) ?_
            refine AllReadyH.cons rfl (fun K hK => ?_) AllReadyH.nil
            have bT2 : Hid (Box (u1.alloc (.cells (List.toArray [.int .i64 2, .int .i64 1, .slice (some ⟨bn, 0, none⟩) 1 1, .slice none 0 0, .slice none 0 0]) 37)) (w.heap.size + 1) [.slice av j cv, .slice none 0 0] 28) := bT1.out.alloc _
            go_simp
            refine hK.out _ _ hHeld (fun hHeld => ?_)
            clear hK K
            refine wpAnyH_ready (rs := [4]) (by kernel_rfl) (by simp) ?_
            refine AllReadyH.cons rfl (fun K hK => ?_) AllReadyH.nil
            refine step_append_lies (u1.alloc (.cells (List.toArray [.int .i64 2, .int .i64 1, .slice (some ⟨bn, 0, none⟩) 1 1, .slice none 0 0, .slice none 0 0]) 37)) rfl _ _ 25 rfl (w.heap.size + 2) 37 iH _ 5 88 Try.underlying25 hiH.out heH.out.1 heH.out.2.1 heH.out.2.2 rfl (by decide) (.slice av j cv) j css.flatten rfl (by have h5 := row_below hgr.out.2.2.2.1 (hu1.out.alloc hu1.out.size (.cells (List.toArray [.int .i64 2, .int .i64 1, .slice (some ⟨bn, 0, none⟩) 1 1, .slice none 0 0, .slice none 0 0]) 37)); rw [hlenj.out] at h5; exact h5) ⟨u1.heap.size, 0, none⟩ 1 1 [.int .i64 2, .int .i64 1, .slice (some ⟨bn, 0, none⟩) 1 1, .slice none 0 0, .slice none 0 0] rfl rfl (by intro i u hu; match i, hu with | 0, hu => (simp at hu; subst hu; simp [Addr.add]) | 1, hu => (simp at hu; subst hu; simp [Addr.add]) | 2, hu => (simp at hu; subst hu; simp [Addr.add]) | 3, hu => (simp at hu; subst hu; simp [Addr.add]) | 4, hu => (simp at hu; subst hu; simp [Addr.add]) | i + 5, hu => simp at hu) (by intro u hu; simp at hu; rcases hu with rfl | rfl | rfl | rfl <;> rfl) (by omega) (by unfold maxLen; omega) (by omega) (by have := hu1.out.size; simp; omega) _ rfl ?_
            intro g capg w3 hown3 hgrow3 hat3 hlt3
            have hb3 : Hid (Below (w.heap.size + 2) (u1.alloc (.cells (List.toArray [.int .i64 2, .int .i64 1, .slice (some ⟨bn, 0, none⟩) 1 1, .slice none 0 0, .slice none 0 0]) 37)) w3) := (Below.refl _ _).grown hgrow3 (by have := hu1.out.size; simp; omega) (fun k e => own_block2 hgr.out.2.2.2.1 k e)
            have bT3 : Hid (Box w3 (w.heap.size + 1) [.slice av j cv, .slice none 0 0] 28) := bT2.out.below hb3.out (by omega)
            go_simp
            refine hK.out _ _ hHeld (fun hHeld => ?_)
            clear hK K
            refine tq (i := 5) (d := 17) ?_
            simp only [sz, ss]
            refine wpAnyH_ready (rs := [6]) (by kernel_rfl) (by simp) ?_
            refine AllReadyH.cons rfl (fun K hK => ?_) AllReadyH.nil
            have cT3 := bT3.out.cell 0 rfl
            have fT3 := bT3.out.unfrozen
            go_simp
            refine hK.out _ _ hHeld (fun hHeld => ?_)
            clear hK K
            refine wpAnyH_done (by kernel_rfl) ?_ _
            clear cT3 fT3
            go_wp2_with fail
            go_roundw
            case rel =>
              have hsz1 := hu1.out.size
              have hg3 := GrowOwn.snoc HeapOwn_stays hgr.out (w2 := (u1.alloc (.cells (List.toArray [.int .i64 2, .int .i64 1, .slice (some ⟨bn, 0, none⟩) 1 1, .slice none 0 0, .slice none 0 0]) 37))) (hu1.out.alloc hsz1 _) (by omega) rfl (HeapOwn_stays _ _ _ _ _ (fun b qq => Below.heap_alloc _ _ _ (by simp at qq; omega)) ho1'.out) (by simp) (by simpa using lo1') (by simp; omega) (by rw [hlenj.out]) hown3 hgrow3 hat3
              refine ⟨j + 1, some ⟨g, 0, none⟩, capg, bss ++ [[bn]], css ++ [[.int .i64 2, .int .i64 1, .slice (some ⟨bn, 0, none⟩) 1 1, .slice none 0 0, .slice none 0 0]], by omega, by go_num, ?_, bT3.out.set (i := 0) _, ?_⟩
              · show GrowOwn _ _ _ _ _ _ _ _ _
                rw [List.replicate_succ']
                exact hg3.set HeapOwn_stays (by omega)
              · exact Out.set (outFarW hout.out (((hu1.out.mono (by simp; omega)).alloc (by simp; omega) _).trans (by have h5 := hb3.out; simpa using h5))) List.mem_cons_self _
            case measure => simp [intOf]; omega
          · have bT2 : Hid (Box (u1.alloc (.cells (List.toArray [.int .i64 2, .int .i64 1, .slice (some ⟨bn, 0, none⟩) 1 1, .slice none 0 0, .slice none 0 0]) 37)) (w.heap.size + 1) [.slice av j cv, .slice none 0 0] 28) := bT1.out.alloc _
            go_simp
            refine hK.out _ _ hHeld (fun hHeld => ?_)
            clear hK K
            refine wpAnyH_ready (rs := [1]) (by kernel_rfl) (by simp) ?_
            refine AllReadyH.cons rfl (fun K hK => ?_) AllReadyH.nil
            have cT : (u1.alloc (.cells (List.toArray [.int .i64 2, .int .i64 1, .slice (some ⟨bn, 0, none⟩) 1 1, .slice none 0 0, .slice none 0 0]) 37)).cell? ⟨w.heap.size + 1, 0, none⟩ = some (.slice av j cv) := bT2.out.cell 0 rfl
            go_simp
            clear cT
            refine hK.out _ _ hHeld (fun hHeld => ?_)
            clear hK K
            refine wpAnyH_ready (rs := [4]) (by kernel_rfl) (by simp) ?_
            refine AllReadyH.cons rfl (fun K hK => ?_) AllReadyH.nil
            refine step_append_lies (u1.alloc (.cells (List.toArray [.int .i64 2, .int .i64 1, .slice (some ⟨bn, 0, none⟩) 1 1, .slice none 0 0, .slice none 0 0]) 37)) rfl _ _ 25 rfl (w.heap.size + 2) 37 iH _ 5 88 Try.underlying25 hiH.out heH.out.1 heH.out.2.1 heH.out.2.2 rfl (by decide) (.slice av j cv) j css.flatten rfl (by have h5 := row_below hgr.out.2.2.2.1 (hu1.out.alloc hu1.out.size (.cells (List.toArray [.int .i64 2, .int .i64 1, .slice (some ⟨bn, 0, none⟩) 1 1, .slice none 0 0, .slice none 0 0]) 37)); rw [hlenj.out] at h5; exact h5) ⟨u1.heap.size, 0, none⟩ 1 1 [.int .i64 2, .int .i64 1, .slice (some ⟨bn, 0, none⟩) 1 1, .slice none 0 0, .slice none 0 0] rfl rfl (by intro i u hu; match i, hu with | 0, hu => (simp at hu; subst hu; simp [Addr.add]) | 1, hu => (simp at hu; subst hu; simp [Addr.add]) | 2, hu => (simp at hu; subst hu; simp [Addr.add]) | 3, hu => (simp at hu; subst hu; simp [Addr.add]) | 4, hu => (simp at hu; subst hu; simp [Addr.add]) | i + 5, hu => simp at hu) (by intro u hu; simp at hu; rcases hu with rfl | rfl | rfl | rfl <;> rfl) (by omega) (by unfold maxLen; omega) (by omega) (by have := hu1.out.size; simp; omega) _ rfl ?_
            intro g capg w3 hown3 hgrow3 hat3 hlt3
            have hb3 : Hid (Below (w.heap.size + 2) (u1.alloc (.cells (List.toArray [.int .i64 2, .int .i64 1, .slice (some ⟨bn, 0, none⟩) 1 1, .slice none 0 0, .slice none 0 0]) 37)) w3) := (Below.refl _ _).grown hgrow3 (by have := hu1.out.size; simp; omega) (fun k e => own_block2 hgr.out.2.2.2.1 k e)
            have bT3 : Hid (Box w3 (w.heap.size + 1) [.slice av j cv, .slice none 0 0] 28) := bT2.out.below hb3.out (by omega)
            go_simp
            refine hK.out _ _ hHeld (fun hHeld => ?_)
            clear hK K
            refine tq (i := 5) (d := 17) ?_
            simp only [sz, ss]
            refine wpAnyH_ready (rs := [6]) (by kernel_rfl) (by simp) ?_
            refine AllReadyH.cons rfl (fun K hK => ?_) AllReadyH.nil
            have cT3 := bT3.out.cell 0 rfl
            have fT3 := bT3.out.unfrozen
            go_simp
            refine hK.out _ _ hHeld (fun hHeld => ?_)
            clear hK K
            refine wpAnyH_done (by kernel_rfl) ?_ _
            clear cT3 fT3
            go_wp2_with fail
            go_roundw
            case rel =>
              have hsz1 := hu1.out.size
              have hg3 := GrowOwn.snoc HeapOwn_stays hgr.out (w2 := (u1.alloc (.cells (List.toArray [.int .i64 2, .int .i64 1, .slice (some ⟨bn, 0, none⟩) 1 1, .slice none 0 0, .slice none 0 0]) 37))) (hu1.out.alloc hsz1 _) (by omega) rfl (HeapOwn_stays _ _ _ _ _ (fun b qq => Below.heap_alloc _ _ _ (by simp at qq; omega)) ho1'.out) (by simp) (by simpa using lo1') (by simp; omega) (by rw [hlenj.out]) hown3 hgrow3 hat3
              refine ⟨j + 1, some ⟨g, 0, none⟩, capg, bss ++ [[bn]], css ++ [[.int .i64 2, .int .i64 1, .slice (some ⟨bn, 0, none⟩) 1 1, .slice none 0 0, .slice none 0 0]], by omega, by go_num, ?_, bT3.out.set (i := 0) _, ?_⟩
              · show GrowOwn _ _ _ _ _ _ _ _ _
                rw [List.replicate_succ']
                exact hg3.set HeapOwn_stays (by omega)
              · exact Out.set (outFarW hout.out (((hu1.out.mono (by simp; omega)).alloc (by simp; omega) _).trans (by have h5 := hb3.out; simpa using h5))) List.mem_cons_self _
            case measure => simp [intOf]; omega
      · obtain rfl : j = N := by omega
        have bzr : Box wr w.heap.size [.slice none 0 0, .slice none 0 0] 28 := (hout.out.keep bzz.out.lt (by simp)).trans bzz.out
        have hBr : Below w.heap.size w wr := hb2.trans (hout.out.below (by rw [hz2]; omega) (by simp))
        obtain ⟨fs, hso, hlo⟩ := hgr.out.done
        have hso' : Hid (SeqOwn 5 HeapOwn wr (.slice av j cv) (List.replicate j newH) fs) := hso
        have hlo' : Hid (∀ b ∈ fs, w.heap.size + 2 ≤ b) := hlo
        have cT0 := bTr.out.cell 0 rfl
        have cT1 := bTr.out.cell 1 rfl
        have z0 := bzr.cell 0 rfl
        have z1 := bzr.cell 1 rfl
        have uz := bzr.unfrozen
        clear hso hlo
        go_wp2_with fail
        have bF := (bzr.set (i := 0) (.slice av j cv)).set (i := 1) (.slice none 0 0)
        have r0 := bF.cell 0 rfl
        have r1 := bF.cell 1 rfl
        refine bodyPost_ret (v := .tuple #[.agg #[.slice av j cv, .slice none 0 0], .bool true]) (by simp [results, Try.results6, go_sem, r0, r1]) rfl ?_
        rw [hans.out]
        exact ⟨⟨[.slice av j cv, .slice none 0 0], fs, rfl, ⟨_, rfl, hso'.out.stays HeapOwn_stays (fun b qq => by have := hlo'.out b qq; rw [set_other (by omega), set_other (by omega)])⟩, fun b qq => by have := hlo'.out b qq; omega⟩, (hBr.setCell (by simp) _).setCell (by simp) _⟩
end Go.Proofs.Ytmffdjdgoddnjaa
