/- What DrawClosest tells: some tree, some path, some tag. -/
import Derived.Test.YtddhacalnfkopaaTreeDraw
import Derived.Test.YtddhacalnfkopaaDrawPath
import Derived.Test.YtddhacalnfkopaaTakeLit
import Derived.Deep.RegionHeld3
namespace Go.Proofs.Ytddhacalnfkopaa
open Go.RowKit Go.Deep
theorem kept_alloc {w3 W : World} {L : Nat} (h : Kept w3 W L L) (o : Obj) : Kept w3 (W.alloc o) L L := ⟨Nat.le_trans h.1 (by simp), Nat.le_refl _, fun b q1 q2 => (Below.heap_alloc W o b (Nat.lt_of_lt_of_le q2 h.1)).trans (h.2.2 b q1 q2)⟩
theorem kept_grown {w3 W W' : World} {L g : Nat} (h : Kept w3 W L L) (hg : W.grownBy W' (some g)) (hl : g < L) : Kept w3 W' L L := ⟨Nat.le_trans h.1 hg.size, Nat.le_refl _, fun b q1 q2 => (hg.block b (Nat.lt_of_lt_of_le q2 h.1) (fun e => by injection e with e; omega)).trans (h.2.2 b q1 q2)⟩
theorem kept_put3 {w3 W : World} {L R : Nat} {vs : List Value} (h : Kept w3 W L L) (hl : R < L) : Kept w3 (putCells W R 0 vs) L L := ⟨by rw [putCells_size]; exact h.1, Nat.le_refl _, fun b q1 q2 => (putCells_other _ _ _ _ _ (by omega)).trans (h.2.2 b q1 q2)⟩
theorem box_put {w : World} {g : Nat} {z0 z1 a b : Value} {T : TypeId} (h : Box w g [z0, z1] T) : Box (putCells w g 0 [a, b]) g [a, b] T := (h.set (i := 0) a).set (i := 1) b
theorem box_put2 {w : World} {g R : Nat} {cs vs : List Value} {T : TypeId} (h : Box w g cs T) (hne : g ≠ R) : Box (putCells w R 0 vs) g cs T := (putCells_other _ _ _ _ _ hne).trans h
theorem tab_pick {w : World} {g i : Nat} (h : Box w g [.string ⟨#[97]⟩, .string ⟨#[100, 105, 118]⟩, .string ⟨#[112]⟩, .string ⟨#[110, 111, 110, 101]⟩] 9) (hi : i < 4) : ∃ s : ByteArray, w.cell? ⟨g, i, none⟩ = some (.string s) ∧ s.size ≤ 4 := by
  match i, hi with
  | 0, _ => exact ⟨_, h.cell 0 rfl, by decide⟩
  | 1, _ => exact ⟨_, h.cell 1 rfl, by decide⟩
  | 2, _ => exact ⟨_, h.cell 2 rfl, by decide⟩
  | 3, _ => exact ⟨_, h.cell 3 rfl, by decide⟩
set_option maxRecDepth 100000 in
set_option maxHeartbeats 4000000 in
theorem drawClosest_any {w : World} {a : Option Addr} {n cap : Nat} (h : CodeAt w a n) :
    Calls Try.prog 36 #[.slice a n cap] w fun e w' => (∃ (t k vp : Value) (x : TD) (p : List Int) (tag : ByteArray), e = .returned (.tuple #[.agg #[t, k], vp, .string tag]) ∧ TreeAt w' 0 4 t k x ∧ SeqAt 1 IntAt w' 0 vp p ∧ p.length ≤ 5 ∧ tag.size ≤ 4) ∧ Below w.heap.size w w' := by
  have h' : Hid (CodeAt w a n) := h
  clear h
  go_enter Try.func36, Try.ntmps36
  go_wp2_with fail
  have hbR : Hid (Below w.heap.size w (w.alloc (.cells #[.string ⟨#[]⟩, .slice none 0 0] 33))) := (Below.refl _ _).alloc (Nat.le_refl _) _
  have bR : Hid (Box (w.alloc (.cells #[.string ⟨#[]⟩, .slice none 0 0] 33)) w.heap.size resT 33) := Box.new w _ _
  refine (open_any (CodeAt.below h'.out hbR.out)).mono ?_
  rintro e w1 ⟨g, rfl, hg, hr1, hb1⟩
  have hr1' : Hid (RdAt w1 g a n cap) := hr1
  have hg' : w.heap.size + 1 ≤ g := by simpa using hg
  have hB1 : Hid (Below w.heap.size w w1) := hbR.out.trans (hb1.mono hbR.out.size)
  have bR1 : Hid (Box w1 w.heap.size resT 33) := bR.out.below hb1 bR.out.lt
  have hlt1 := hr1.lt
  clear hr1 hb1 hg
  go_wp2_with fail
  refine (drT_all 4 (by omega) (by omega) w1 g a n cap 1 hr1'.out (by omega)).mono ?_
  rintro e w2 ⟨cs, x, fs, rfl, hok, hnd, hlo, hr2, hg2⟩
  have hlo' : Hid (∀ b ∈ fs, w1.heap.size + 1 ≤ b) := hlo
  have hB2 : Hid (Below w.heap.size w w2) := below_grown hB1.out (by omega) hg2
  have bR2 : Hid (Box w2 w.heap.size resT 33) := box_other bR1.out (by omega) hg2
  have hr2' : Hid (RdAt w2 g a n cap) := hr2
  obtain ⟨t0, k0, e, q⟩ := TreeOwn_at (lo := w1.heap.size + 1) 4 _ _ _ _ hok hlo
  obtain ⟨⟨s, rfl⟩, y1, y2, rfl⟩ := q.form
  subst e
  have ht2 : Hid (TreeAt w2 (w1.heap.size + 1) 4 _ _ x) := q
  have hz2 := hg2.size
  clear hok hnd hlo hr2 hg2 q
  have hbT : Hid (Below w2.heap.size w2 (w2.alloc (.cells #[.string s, .slice y1 (kidsOf x).length y2] 33))) := (Below.refl _ _).alloc (Nat.le_refl _) _
  have bT2 : Hid (Box (w2.alloc (.cells #[.string s, .slice y1 (kidsOf x).length y2] 33)) w2.heap.size [.string s, .slice y1 (kidsOf x).length y2] 33) := Box.new w2 _ _
  have bRT : Hid (Box (w2.alloc (.cells #[.string s, .slice y1 (kidsOf x).length y2] 33)) w.heap.size resT 33) := bR2.out.alloc _
  have htT : Hid (TreeAt (w2.alloc (.cells #[.string s, .slice y1 (kidsOf x).length y2] 33)) (w1.heap.size + 1) 4 _ _ x) := ht2.out.below hbT.out
  have hBT : Hid (Below w.heap.size w (w2.alloc (.cells #[.string s, .slice y1 (kidsOf x).length y2] 33))) := hB2.out.trans (hbT.out.mono hB2.out.size)
  have hrT : Hid (RdAt (w2.alloc (.cells #[.string s, .slice y1 (kidsOf x).length y2] 33)) g a n cap) := hr2'.out.below hbT.out
  have hzT : (w2.alloc (.cells #[.string s, .slice y1 (kidsOf x).length y2] 33)).heap.size = w2.heap.size + 1 := by simp
  go_wp2_with fail
  refine (path_any (n := 4) hrT.out (by exact htT.out)).mono ?_
  rintro e w3 ⟨⟨vp, p, rfl, hp, hpl0⟩, hr3, hg3⟩
  have hpl : Hid (p.length ≤ 5) := hpl0
  have hp3 : Hid (SeqAt 1 IntAt w3 (w2.heap.size + 1) vp p) := by rw [← hzT]; exact hp
  have ht3 : Hid (TreeAt w3 (w1.heap.size + 1) 4 (.string s) (.slice y1 (kidsOf x).length y2) x) := TreeAt.keep hg3.size (Nat.le_refl _) (fun b q1 q2 => hg3.block b q2 (fun e => by injection e with e; omega)) 4 _ _ _ htT.out
  have bT3 : Hid (Box w3 w2.heap.size [.string s, .slice y1 (kidsOf x).length y2] 33) := box_other bT2.out (by omega) hg3
  have bR3 : Hid (Box w3 w.heap.size resT 33) := box_other bRT.out (by omega) hg3
  have hB3 : Hid (Below w.heap.size w w3) := below_grown hBT.out (by omega) hg3
  have hr3' : Hid (RdAt w3 g a n cap) := hr3
  have hz3 := hg3.size
  rw [hzT] at hz3
  clear hp hpl0 hr3 hg3 hrT hBT htT bRT bT2 hbT ht2 hr2' bR2 hB2 bR1 hB1 hr1' hbR bR h' hlo'
  go_wp2_with fail
  have hKd : Hid (Kept w3 w3.drew (w1.heap.size + 1) (w1.heap.size + 1)) := ⟨Nat.le_refl _, Nat.le_refl _, fun _ _ _ => rfl⟩
  have hBd : Hid (Below w.heap.size w w3.drew) := hB3.out.drew
  have bRd : Hid (Box w3.drew w.heap.size resT 33) := bR3.out
  have bTd : Hid (Box w3.drew w2.heap.size [.string s, .slice y1 (kidsOf x).length y2] 33) := bT3.out
  have rdd : Hid (RdAt w3.drew g a n cap) := hr3'.out.below (Below.drew (Below.refl _ _))
  refine wp_region_held_drew (S := fun w' => w'.cell? ⟨w2.heap.size, 0, none⟩ = some (.string s) ∧ w'.cell? ⟨w2.heap.size, 1, none⟩ = some (.slice y1 (kidsOf x).length y2)) (by kernel_rfl) ⟨bT3.out.cell 0 rfl, bT3.out.cell 1 rfl⟩ (fun hHeld => ?_)
  refine take_lit (i := 0) (d := 15) (v := ?_) rfl rfl (by kernel_rfl) (by kernel_rfl) (by kernel_rfl) (fun _ _ _ h => h) (Or.inl ⟨by rfl, ?_⟩) (by assumption) ?_
  rotate_left
  · (intro w hSw; (try dsimp only at hSw); first | (go_simp; done) | (go_simp; with_reducible rfl))
  simp only [List.set_cons_zero, List.set_cons_succ]
  refine take_lit (i := 1) (d := 16) (v := ?_) rfl rfl (by kernel_rfl) (by kernel_rfl) (by kernel_rfl) (fun _ _ _ h => h) (Or.inl ⟨by rfl, ?_⟩) (by assumption) ?_
  rotate_left
  · (intro w hSw; (try dsimp only at hSw); first | (go_simp; done) | (go_simp; with_reducible rfl))
  simp only [List.set_cons_zero, List.set_cons_succ]
  refine take_lit (i := 3) (d := 18) (v := ?_) rfl rfl (by kernel_rfl) (by kernel_rfl) (by kernel_rfl) (fun _ _ _ h => h) (Or.inl ⟨by rfl, ?_⟩) (by assumption) ?_
  rotate_left
  · (intro w hSw; (try dsimp only at hSw); first | (go_simp; done) | (go_simp; with_reducible rfl))
  simp only [List.set_cons_zero, List.set_cons_succ]
  refine wpAnyH_ready (rs := [2, 4]) (by kernel_rfl) (by simp) ?_
  refine (AllReadyH.cons rfl (fun K hK => ?_) (AllReadyH.cons rfl (fun K hK => ?_) AllReadyH.nil))
  · go_simp
    have hK10 : Hid (Kept w3 (w3.drew.alloc (.cells #[.string ⟨#[97]⟩, .string ⟨#[100, 105, 118]⟩, .string ⟨#[112]⟩, .string ⟨#[110, 111, 110, 101]⟩] 9)) (w1.heap.size + 1) (w1.heap.size + 1)) := kept_alloc hKd.out _
    have hB10 : Hid (Below w.heap.size w (w3.drew.alloc (.cells #[.string ⟨#[97]⟩, .string ⟨#[100, 105, 118]⟩, .string ⟨#[112]⟩, .string ⟨#[110, 111, 110, 101]⟩] 9))) := hBd.out.alloc hBd.out.size _
    have bR10 : Hid (Box (w3.drew.alloc (.cells #[.string ⟨#[97]⟩, .string ⟨#[100, 105, 118]⟩, .string ⟨#[112]⟩, .string ⟨#[110, 111, 110, 101]⟩] 9)) (w.heap.size) resT 33) := bRd.out.alloc _
    have bT10 : Hid (Box (w3.drew.alloc (.cells #[.string ⟨#[97]⟩, .string ⟨#[100, 105, 118]⟩, .string ⟨#[112]⟩, .string ⟨#[110, 111, 110, 101]⟩] 9)) (w2.heap.size) [.string s, .slice y1 (kidsOf x).length y2] 33) := bTd.out.alloc _
    have rd10 : Hid (RdAt (w3.drew.alloc (.cells #[.string ⟨#[97]⟩, .string ⟨#[100, 105, 118]⟩, .string ⟨#[112]⟩, .string ⟨#[110, 111, 110, 101]⟩] 9)) g a n cap) := rdd.out.below ((Below.refl _ _).alloc (Nat.le_refl _) _)
    have tb10 : Hid (Box (w3.drew.alloc (.cells #[.string ⟨#[97]⟩, .string ⟨#[100, 105, 118]⟩, .string ⟨#[112]⟩, .string ⟨#[110, 111, 110, 101]⟩] 9)) (w3.heap.size) [.string ⟨#[97]⟩, .string ⟨#[100, 105, 118]⟩, .string ⟨#[112]⟩, .string ⟨#[110, 111, 110, 101]⟩] 9) := by show Box _ _ _ _; have z := Box.new w3.drew [.string ⟨#[97]⟩, .string ⟨#[100, 105, 118]⟩, .string ⟨#[112]⟩, .string ⟨#[110, 111, 110, 101]⟩] 9; first | exact z | (rw [putCells_size] at z; exact z)
    refine hK.out _ _ ⟨bT10.out.cell 0 rfl, bT10.out.cell 1 rfl⟩ (fun hHeld => ?_)
    clear hK K
    refine wpAnyH_ready (rs := [4]) (by kernel_rfl) (by simp) ?_
    refine AllReadyH.cons rfl (fun K hK => ?_) AllReadyH.nil
    go_simp
    refine (below_any rd10.out 4 (by omega) (by omega)).mono ?_
    rintro e w4 ⟨v, rfl, v0, v1, hr4, hg4⟩
    obtain ⟨i4, rfl⟩ : ∃ i : Nat, v = i := ⟨v.toNat, by omega⟩
    have hK11 : Hid (Kept w3 w4 (w1.heap.size + 1) (w1.heap.size + 1)) := kept_grown hK10.out hg4 (by omega)
    have hB11 : Hid (Below w.heap.size w w4) := below_grown hB10.out (by omega) hg4
    have bR11 : Hid (Box w4 (w.heap.size) resT 33) := box_other bR10.out (by omega) hg4
    have bT11 : Hid (Box w4 (w2.heap.size) [.string s, .slice y1 (kidsOf x).length y2] 33) := box_other bT10.out (by omega) hg4
    have tb11 : Hid (Box w4 (w3.heap.size) [.string ⟨#[97]⟩, .string ⟨#[100, 105, 118]⟩, .string ⟨#[112]⟩, .string ⟨#[110, 111, 110, 101]⟩] 9) := box_other tb10.out (by omega) hg4
    have hz4 : w3.heap.size ≤ w4.heap.size := hK11.out.1
    clear hr4 hg4
    refine hK.out _ _ ⟨bT11.out.cell 0 rfl, bT11.out.cell 1 rfl⟩ (fun hHeld => ?_)
    clear hK K
    refine take_lit (i := 5) (d := 20) (v := ?_) rfl rfl (by kernel_rfl) (by kernel_rfl) (by kernel_rfl) (fun _ _ _ h => h) (Or.inl ⟨by rfl, ?_⟩) (by assumption) ?_
    rotate_left
    · (intro w hSw; (try dsimp only at hSw); first | (go_simp; done) | (go_simp; with_reducible rfl))
    simp only [List.set_cons_zero, List.set_cons_succ]
    refine wpAnyH_ready (rs := [6, 7]) (by kernel_rfl) (by simp) ?_
    refine (AllReadyH.cons rfl (fun K hK => ?_) (AllReadyH.cons rfl (fun K hK => ?_) AllReadyH.nil))
    · obtain ⟨tg, c6, htg⟩ := tab_pick tb11.out (i := i4) (by omega)
      go_simp
      refine hK.out _ _ ⟨bT11.out.cell 0 rfl, bT11.out.cell 1 rfl⟩ (fun hHeld => ?_)
      clear hK K
      refine wpAnyH_ready (rs := [7]) (by kernel_rfl) (by simp) ?_
      refine AllReadyH.cons rfl (fun K hK => ?_) AllReadyH.nil
      have r0 := bR11.out.cell 0 rfl
      have r1 := bR11.out.cell 1 rfl
      have fR := bR11.out.unfrozen
      have hK12 : Hid (Kept w3 (putCells w4 (w.heap.size) 0 [.string s, .slice y1 (kidsOf x).length y2]) (w1.heap.size + 1) (w1.heap.size + 1)) := kept_put3 hK11.out (by omega)
      have hB12 : Hid (Below w.heap.size w (putCells w4 (w.heap.size) 0 [.string s, .slice y1 (kidsOf x).length y2])) := putCells_below [.string s, .slice y1 (kidsOf x).length y2] _ _ _ (w.heap.size) 0 (Nat.le_refl _) hB11.out
      have bR12 : Hid (Box (putCells w4 (w.heap.size) 0 [.string s, .slice y1 (kidsOf x).length y2]) (w.heap.size) [.string s, .slice y1 (kidsOf x).length y2] 33) := box_put bR11.out
      have bT12 : Hid (Box (putCells w4 (w.heap.size) 0 [.string s, .slice y1 (kidsOf x).length y2]) (w2.heap.size) [.string s, .slice y1 (kidsOf x).length y2] 33) := box_put2 bT11.out (by omega)
      have tb12 : Hid (Box (putCells w4 (w.heap.size) 0 [.string s, .slice y1 (kidsOf x).length y2]) (w3.heap.size) [.string ⟨#[97]⟩, .string ⟨#[100, 105, 118]⟩, .string ⟨#[112]⟩, .string ⟨#[110, 111, 110, 101]⟩] 9) := box_put2 tb11.out (by omega)
      go_simp
      refine hK.out _ _ ⟨bT12.out.cell 0 rfl, bT12.out.cell 1 rfl⟩ (fun hHeld => ?_)
      clear hK K
      refine take_lit (i := 8) (d := 3) (v := ?_) rfl rfl (by kernel_rfl) (by kernel_rfl) (by kernel_rfl) (fun _ _ _ h => h) (Or.inl ⟨by rfl, ?_⟩) (by assumption) ?_
      rotate_left
      · (intro w hSw; (try dsimp only at hSw); first | (go_simp; done) | (go_simp; with_reducible rfl))
      simp only [List.set_cons_zero, List.set_cons_succ]
      refine take_lit (i := 9) (d := 4) (v := ?_) rfl rfl (by kernel_rfl) (by kernel_rfl) (by kernel_rfl) (fun _ _ _ h => h) (Or.inl ⟨by rfl, ?_⟩) (by assumption) ?_
      rotate_left
      · (intro w hSw; (try dsimp only at hSw); first | (go_simp; done) | (go_simp; with_reducible rfl))
      simp only [List.set_cons_zero, List.set_cons_succ]
      refine wpAnyH_done (by kernel_rfl) ?_ _
      go_wp2_with fail
      exact bodyPost_ret (v := .tuple #[.agg (List.toArray [.string s, .slice y1 (kidsOf x).length y2]), vp, .string tg]) (by simp [results, Try.results36, go_sem, r0, r1]) rfl ⟨⟨_, _, vp, x, p, tg, rfl, TreeAt.keep hK12.out.1 (Nat.zero_le _) hK12.out.2.2 4 _ _ _ ht3.out, SeqAt.keep intAt_stays hp3.out ⟨hK12.out.1, Nat.zero_le _, fun b q1 q2 => hK12.out.2.2 b (by omega) q2⟩, hpl.out, htg⟩, hB12.out⟩
    · have r0 := bR11.out.cell 0 rfl
      have r1 := bR11.out.cell 1 rfl
      have fR := bR11.out.unfrozen
      have hK12 : Hid (Kept w3 (putCells w4 (w.heap.size) 0 [.string s, .slice y1 (kidsOf x).length y2]) (w1.heap.size + 1) (w1.heap.size + 1)) := kept_put3 hK11.out (by omega)
      have hB12 : Hid (Below w.heap.size w (putCells w4 (w.heap.size) 0 [.string s, .slice y1 (kidsOf x).length y2])) := putCells_below [.string s, .slice y1 (kidsOf x).length y2] _ _ _ (w.heap.size) 0 (Nat.le_refl _) hB11.out
      have bR12 : Hid (Box (putCells w4 (w.heap.size) 0 [.string s, .slice y1 (kidsOf x).length y2]) (w.heap.size) [.string s, .slice y1 (kidsOf x).length y2] 33) := box_put bR11.out
      have bT12 : Hid (Box (putCells w4 (w.heap.size) 0 [.string s, .slice y1 (kidsOf x).length y2]) (w2.heap.size) [.string s, .slice y1 (kidsOf x).length y2] 33) := box_put2 bT11.out (by omega)
      have tb12 : Hid (Box (putCells w4 (w.heap.size) 0 [.string s, .slice y1 (kidsOf x).length y2]) (w3.heap.size) [.string ⟨#[97]⟩, .string ⟨#[100, 105, 118]⟩, .string ⟨#[112]⟩, .string ⟨#[110, 111, 110, 101]⟩] 9) := box_put2 tb11.out (by omega)
      go_simp
      refine hK.out _ _ ⟨bT12.out.cell 0 rfl, bT12.out.cell 1 rfl⟩ (fun hHeld => ?_)
      clear hK K
      refine take_lit (i := 8) (d := 3) (v := ?_) rfl rfl (by kernel_rfl) (by kernel_rfl) (by kernel_rfl) (fun _ _ _ h => h) (Or.inl ⟨by rfl, ?_⟩) (by assumption) ?_
      rotate_left
      · (intro w hSw; (try dsimp only at hSw); first | (go_simp; done) | (go_simp; with_reducible rfl))
      simp only [List.set_cons_zero, List.set_cons_succ]
      refine wpAnyH_ready (rs := [6]) (by kernel_rfl) (by simp) ?_
      refine AllReadyH.cons rfl (fun K hK => ?_) AllReadyH.nil
      obtain ⟨tg, c6, htg⟩ := tab_pick tb12.out (i := i4) (by omega)
      have c7 : ((w4.setCell ⟨w.heap.size, 0, none⟩ (.string s)).setCell ⟨w.heap.size, 1, none⟩ (.slice y1 (kidsOf x).length y2)).cell? ⟨w3.heap.size, i4, none⟩ = some (.string tg) := c6
      go_simp
      refine hK.out _ _ ⟨bT12.out.cell 0 rfl, bT12.out.cell 1 rfl⟩ (fun hHeld => ?_)
      clear hK K
      refine take_lit (i := 9) (d := 4) (v := ?_) rfl rfl (by kernel_rfl) (by kernel_rfl) (by kernel_rfl) (fun _ _ _ h => h) (Or.inl ⟨by rfl, ?_⟩) (by assumption) ?_
      rotate_left
      · (intro w hSw; (try dsimp only at hSw); first | (go_simp; done) | (go_simp; with_reducible rfl))
      simp only [List.set_cons_zero, List.set_cons_succ]
      refine wpAnyH_done (by kernel_rfl) ?_ _
      go_wp2_with fail
      exact bodyPost_ret (v := .tuple #[.agg (List.toArray [.string s, .slice y1 (kidsOf x).length y2]), vp, .string tg]) (by simp [results, Try.results36, go_sem, r0, r1]) rfl ⟨⟨_, _, vp, x, p, tg, rfl, TreeAt.keep hK12.out.1 (Nat.zero_le _) hK12.out.2.2 4 _ _ _ ht3.out, SeqAt.keep intAt_stays hp3.out ⟨hK12.out.1, Nat.zero_le _, fun b q1 q2 => hK12.out.2.2 b (by omega) q2⟩, hpl.out, htg⟩, hB12.out⟩
  · go_simp
    refine (below_any rdd.out 4 (by omega) (by omega)).mono ?_
    rintro e w4 ⟨v, rfl, v0, v1, hr4, hg4⟩
    obtain ⟨i4, rfl⟩ : ∃ i : Nat, v = i := ⟨v.toNat, by omega⟩
    have hK10 : Hid (Kept w3 w4 (w1.heap.size + 1) (w1.heap.size + 1)) := kept_grown hKd.out hg4 (by omega)
    have hB10 : Hid (Below w.heap.size w w4) := below_grown hBd.out (by omega) hg4
    have bR10 : Hid (Box w4 (w.heap.size) resT 33) := box_other bRd.out (by omega) hg4
    have bT10 : Hid (Box w4 (w2.heap.size) [.string s, .slice y1 (kidsOf x).length y2] 33) := box_other bTd.out (by omega) hg4
    have hz4 : w3.heap.size ≤ w4.heap.size := hK10.out.1
    clear hr4 hg4
    refine hK.out _ _ ⟨bT10.out.cell 0 rfl, bT10.out.cell 1 rfl⟩ (fun hHeld => ?_)
    clear hK K
    refine wpAnyH_ready (rs := [2, 7]) (by kernel_rfl) (by simp) ?_
    refine (AllReadyH.cons rfl (fun K hK => ?_) (AllReadyH.cons rfl (fun K hK => ?_) AllReadyH.nil))
    · go_simp
      have hK11 : Hid (Kept w3 (w4.alloc (.cells #[.string ⟨#[97]⟩, .string ⟨#[100, 105, 118]⟩, .string ⟨#[112]⟩, .string ⟨#[110, 111, 110, 101]⟩] 9)) (w1.heap.size + 1) (w1.heap.size + 1)) := kept_alloc hK10.out _
      have hB11 : Hid (Below w.heap.size w (w4.alloc (.cells #[.string ⟨#[97]⟩, .string ⟨#[100, 105, 118]⟩, .string ⟨#[112]⟩, .string ⟨#[110, 111, 110, 101]⟩] 9))) := hB10.out.alloc hB10.out.size _
      have bR11 : Hid (Box (w4.alloc (.cells #[.string ⟨#[97]⟩, .string ⟨#[100, 105, 118]⟩, .string ⟨#[112]⟩, .string ⟨#[110, 111, 110, 101]⟩] 9)) (w.heap.size) resT 33) := bR10.out.alloc _
      have bT11 : Hid (Box (w4.alloc (.cells #[.string ⟨#[97]⟩, .string ⟨#[100, 105, 118]⟩, .string ⟨#[112]⟩, .string ⟨#[110, 111, 110, 101]⟩] 9)) (w2.heap.size) [.string s, .slice y1 (kidsOf x).length y2] 33) := bT10.out.alloc _
      have tb11 : Hid (Box (w4.alloc (.cells #[.string ⟨#[97]⟩, .string ⟨#[100, 105, 118]⟩, .string ⟨#[112]⟩, .string ⟨#[110, 111, 110, 101]⟩] 9)) (w4.heap.size) [.string ⟨#[97]⟩, .string ⟨#[100, 105, 118]⟩, .string ⟨#[112]⟩, .string ⟨#[110, 111, 110, 101]⟩] 9) := by show Box _ _ _ _; have z := Box.new w4 [.string ⟨#[97]⟩, .string ⟨#[100, 105, 118]⟩, .string ⟨#[112]⟩, .string ⟨#[110, 111, 110, 101]⟩] 9; first | exact z | (rw [putCells_size] at z; exact z)
      refine hK.out _ _ ⟨bT11.out.cell 0 rfl, bT11.out.cell 1 rfl⟩ (fun hHeld => ?_)
      clear hK K
      refine take_lit (i := 5) (d := 20) (v := ?_) rfl rfl (by kernel_rfl) (by kernel_rfl) (by kernel_rfl) (fun _ _ _ h => h) (Or.inl ⟨by rfl, ?_⟩) (by assumption) ?_
      rotate_left
      · (intro w hSw; (try dsimp only at hSw); first | (go_simp; done) | (go_simp; with_reducible rfl))
      simp only [List.set_cons_zero, List.set_cons_succ]
      refine wpAnyH_ready (rs := [6, 7]) (by kernel_rfl) (by simp) ?_
      refine (AllReadyH.cons rfl (fun K hK => ?_) (AllReadyH.cons rfl (fun K hK => ?_) AllReadyH.nil))
      · obtain ⟨tg, c6, htg⟩ := tab_pick tb11.out (i := i4) (by omega)
        go_simp
        refine hK.out _ _ ⟨bT11.out.cell 0 rfl, bT11.out.cell 1 rfl⟩ (fun hHeld => ?_)
        clear hK K
        refine wpAnyH_ready (rs := [7]) (by kernel_rfl) (by simp) ?_
        refine AllReadyH.cons rfl (fun K hK => ?_) AllReadyH.nil
        have r0 := bR11.out.cell 0 rfl
        have r1 := bR11.out.cell 1 rfl
        have fR := bR11.out.unfrozen
        have hK12 : Hid (Kept w3 (putCells (w4.alloc (.cells #[.string ⟨#[97]⟩, .string ⟨#[100, 105, 118]⟩, .string ⟨#[112]⟩, .string ⟨#[110, 111, 110, 101]⟩] 9)) (w.heap.size) 0 [.string s, .slice y1 (kidsOf x).length y2]) (w1.heap.size + 1) (w1.heap.size + 1)) := kept_put3 hK11.out (by omega)
        have hB12 : Hid (Below w.heap.size w (putCells (w4.alloc (.cells #[.string ⟨#[97]⟩, .string ⟨#[100, 105, 118]⟩, .string ⟨#[112]⟩, .string ⟨#[110, 111, 110, 101]⟩] 9)) (w.heap.size) 0 [.string s, .slice y1 (kidsOf x).length y2])) := putCells_below [.string s, .slice y1 (kidsOf x).length y2] _ _ _ (w.heap.size) 0 (Nat.le_refl _) hB11.out
        have bR12 : Hid (Box (putCells (w4.alloc (.cells #[.string ⟨#[97]⟩, .string ⟨#[100, 105, 118]⟩, .string ⟨#[112]⟩, .string ⟨#[110, 111, 110, 101]⟩] 9)) (w.heap.size) 0 [.string s, .slice y1 (kidsOf x).length y2]) (w.heap.size) [.string s, .slice y1 (kidsOf x).length y2] 33) := box_put bR11.out
        have bT12 : Hid (Box (putCells (w4.alloc (.cells #[.string ⟨#[97]⟩, .string ⟨#[100, 105, 118]⟩, .string ⟨#[112]⟩, .string ⟨#[110, 111, 110, 101]⟩] 9)) (w.heap.size) 0 [.string s, .slice y1 (kidsOf x).length y2]) (w2.heap.size) [.string s, .slice y1 (kidsOf x).length y2] 33) := box_put2 bT11.out (by omega)
        have tb12 : Hid (Box (putCells (w4.alloc (.cells #[.string ⟨#[97]⟩, .string ⟨#[100, 105, 118]⟩, .string ⟨#[112]⟩, .string ⟨#[110, 111, 110, 101]⟩] 9)) (w.heap.size) 0 [.string s, .slice y1 (kidsOf x).length y2]) (w4.heap.size) [.string ⟨#[97]⟩, .string ⟨#[100, 105, 118]⟩, .string ⟨#[112]⟩, .string ⟨#[110, 111, 110, 101]⟩] 9) := box_put2 tb11.out (by omega)
        go_simp
        refine hK.out _ _ ⟨bT12.out.cell 0 rfl, bT12.out.cell 1 rfl⟩ (fun hHeld => ?_)
        clear hK K
        refine take_lit (i := 8) (d := 3) (v := ?_) rfl rfl (by kernel_rfl) (by kernel_rfl) (by kernel_rfl) (fun _ _ _ h => h) (Or.inl ⟨by rfl, ?_⟩) (by assumption) ?_
        rotate_left
        · (intro w hSw; (try dsimp only at hSw); first | (go_simp; done) | (go_simp; with_reducible rfl))
        simp only [List.set_cons_zero, List.set_cons_succ]
        refine take_lit (i := 9) (d := 4) (v := ?_) rfl rfl (by kernel_rfl) (by kernel_rfl) (by kernel_rfl) (fun _ _ _ h => h) (Or.inl ⟨by rfl, ?_⟩) (by assumption) ?_
        rotate_left
        · (intro w hSw; (try dsimp only at hSw); first | (go_simp; done) | (go_simp; with_reducible rfl))
        simp only [List.set_cons_zero, List.set_cons_succ]
        refine wpAnyH_done (by kernel_rfl) ?_ _
        go_wp2_with fail
        exact bodyPost_ret (v := .tuple #[.agg (List.toArray [.string s, .slice y1 (kidsOf x).length y2]), vp, .string tg]) (by simp [results, Try.results36, go_sem, r0, r1]) rfl ⟨⟨_, _, vp, x, p, tg, rfl, TreeAt.keep hK12.out.1 (Nat.zero_le _) hK12.out.2.2 4 _ _ _ ht3.out, SeqAt.keep intAt_stays hp3.out ⟨hK12.out.1, Nat.zero_le _, fun b q1 q2 => hK12.out.2.2 b (by omega) q2⟩, hpl.out, htg⟩, hB12.out⟩
      · have r0 := bR11.out.cell 0 rfl
        have r1 := bR11.out.cell 1 rfl
        have fR := bR11.out.unfrozen
        have hK12 : Hid (Kept w3 (putCells (w4.alloc (.cells #[.string ⟨#[97]⟩, .string ⟨#[100, 105, 118]⟩, .string ⟨#[112]⟩, .string ⟨#[110, 111, 110, 101]⟩] 9)) (w.heap.size) 0 [.string s, .slice y1 (kidsOf x).length y2]) (w1.heap.size + 1) (w1.heap.size + 1)) := kept_put3 hK11.out (by omega)
        have hB12 : Hid (Below w.heap.size w (putCells (w4.alloc (.cells #[.string ⟨#[97]⟩, .string ⟨#[100, 105, 118]⟩, .string ⟨#[112]⟩, .string ⟨#[110, 111, 110, 101]⟩] 9)) (w.heap.size) 0 [.string s, .slice y1 (kidsOf x).length y2])) := putCells_below [.string s, .slice y1 (kidsOf x).length y2] _ _ _ (w.heap.size) 0 (Nat.le_refl _) hB11.out
        have bR12 : Hid (Box (putCells (w4.alloc (.cells #[.string ⟨#[97]⟩, .string ⟨#[100, 105, 118]⟩, .string ⟨#[112]⟩, .string ⟨#[110, 111, 110, 101]⟩] 9)) (w.heap.size) 0 [.string s, .slice y1 (kidsOf x).length y2]) (w.heap.size) [.string s, .slice y1 (kidsOf x).length y2] 33) := box_put bR11.out
        have bT12 : Hid (Box (putCells (w4.alloc (.cells #[.string ⟨#[97]⟩, .string ⟨#[100, 105, 118]⟩, .string ⟨#[112]⟩, .string ⟨#[110, 111, 110, 101]⟩] 9)) (w.heap.size) 0 [.string s, .slice y1 (kidsOf x).length y2]) (w2.heap.size) [.string s, .slice y1 (kidsOf x).length y2] 33) := box_put2 bT11.out (by omega)
        have tb12 : Hid (Box (putCells (w4.alloc (.cells #[.string ⟨#[97]⟩, .string ⟨#[100, 105, 118]⟩, .string ⟨#[112]⟩, .string ⟨#[110, 111, 110, 101]⟩] 9)) (w.heap.size) 0 [.string s, .slice y1 (kidsOf x).length y2]) (w4.heap.size) [.string ⟨#[97]⟩, .string ⟨#[100, 105, 118]⟩, .string ⟨#[112]⟩, .string ⟨#[110, 111, 110, 101]⟩] 9) := box_put2 tb11.out (by omega)
        go_simp
        refine hK.out _ _ ⟨bT12.out.cell 0 rfl, bT12.out.cell 1 rfl⟩ (fun hHeld => ?_)
        clear hK K
        refine take_lit (i := 8) (d := 3) (v := ?_) rfl rfl (by kernel_rfl) (by kernel_rfl) (by kernel_rfl) (fun _ _ _ h => h) (Or.inl ⟨by rfl, ?_⟩) (by assumption) ?_
        rotate_left
        · (intro w hSw; (try dsimp only at hSw); first | (go_simp; done) | (go_simp; with_reducible rfl))
        simp only [List.set_cons_zero, List.set_cons_succ]
        refine wpAnyH_ready (rs := [6]) (by kernel_rfl) (by simp) ?_
        refine AllReadyH.cons rfl (fun K hK => ?_) AllReadyH.nil
        obtain ⟨tg, c6, htg⟩ := tab_pick tb12.out (i := i4) (by omega)
        have c7 : (((w4.alloc (.cells #[.string ⟨#[97]⟩, .string ⟨#[100, 105, 118]⟩, .string ⟨#[112]⟩, .string ⟨#[110, 111, 110, 101]⟩] 9)).setCell ⟨w.heap.size, 0, none⟩ (.string s)).setCell ⟨w.heap.size, 1, none⟩ (.slice y1 (kidsOf x).length y2)).cell? ⟨w4.heap.size, i4, none⟩ = some (.string tg) := c6
        go_simp
        refine hK.out _ _ ⟨bT12.out.cell 0 rfl, bT12.out.cell 1 rfl⟩ (fun hHeld => ?_)
        clear hK K
        refine take_lit (i := 9) (d := 4) (v := ?_) rfl rfl (by kernel_rfl) (by kernel_rfl) (by kernel_rfl) (fun _ _ _ h => h) (Or.inl ⟨by rfl, ?_⟩) (by assumption) ?_
        rotate_left
        · (intro w hSw; (try dsimp only at hSw); first | (go_simp; done) | (go_simp; with_reducible rfl))
        simp only [List.set_cons_zero, List.set_cons_succ]
        refine wpAnyH_done (by kernel_rfl) ?_ _
        go_wp2_with fail
        exact bodyPost_ret (v := .tuple #[.agg (List.toArray [.string s, .slice y1 (kidsOf x).length y2]), vp, .string tg]) (by simp [results, Try.results36, go_sem, r0, r1]) rfl ⟨⟨_, _, vp, x, p, tg, rfl, TreeAt.keep hK12.out.1 (Nat.zero_le _) hK12.out.2.2 4 _ _ _ ht3.out, SeqAt.keep intAt_stays hp3.out ⟨hK12.out.1, Nat.zero_le _, fun b q1 q2 => hK12.out.2.2 b (by omega) q2⟩, hpl.out, htg⟩, hB12.out⟩
    · have r0 := bR10.out.cell 0 rfl
      have r1 := bR10.out.cell 1 rfl
      have fR := bR10.out.unfrozen
      have hK11 : Hid (Kept w3 (putCells w4 (w.heap.size) 0 [.string s, .slice y1 (kidsOf x).length y2]) (w1.heap.size + 1) (w1.heap.size + 1)) := kept_put3 hK10.out (by omega)
      have hB11 : Hid (Below w.heap.size w (putCells w4 (w.heap.size) 0 [.string s, .slice y1 (kidsOf x).length y2])) := putCells_below [.string s, .slice y1 (kidsOf x).length y2] _ _ _ (w.heap.size) 0 (Nat.le_refl _) hB10.out
      have bR11 : Hid (Box (putCells w4 (w.heap.size) 0 [.string s, .slice y1 (kidsOf x).length y2]) (w.heap.size) [.string s, .slice y1 (kidsOf x).length y2] 33) := box_put bR10.out
      have bT11 : Hid (Box (putCells w4 (w.heap.size) 0 [.string s, .slice y1 (kidsOf x).length y2]) (w2.heap.size) [.string s, .slice y1 (kidsOf x).length y2] 33) := box_put2 bT10.out (by omega)
      go_simp
      refine hK.out _ _ ⟨bT11.out.cell 0 rfl, bT11.out.cell 1 rfl⟩ (fun hHeld => ?_)
      clear hK K
      refine take_lit (i := 8) (d := 3) (v := ?_) rfl rfl (by kernel_rfl) (by kernel_rfl) (by kernel_rfl) (fun _ _ _ h => h) (Or.inl ⟨by rfl, ?_⟩) (by assumption) ?_
      rotate_left
      · (intro w hSw; (try dsimp only at hSw); first | (go_simp; done) | (go_simp; with_reducible rfl))
      simp only [List.set_cons_zero, List.set_cons_succ]
      refine wpAnyH_ready (rs := [2]) (by kernel_rfl) (by simp) ?_
      refine AllReadyH.cons rfl (fun K hK => ?_) AllReadyH.nil
      go_simp
      have hK12 : Hid (Kept w3 ((putCells w4 (w.heap.size) 0 [.string s, .slice y1 (kidsOf x).length y2]).alloc (.cells #[.string ⟨#[97]⟩, .string ⟨#[100, 105, 118]⟩, .string ⟨#[112]⟩, .string ⟨#[110, 111, 110, 101]⟩] 9)) (w1.heap.size + 1) (w1.heap.size + 1)) := kept_alloc hK11.out _
      have hB12 : Hid (Below w.heap.size w ((putCells w4 (w.heap.size) 0 [.string s, .slice y1 (kidsOf x).length y2]).alloc (.cells #[.string ⟨#[97]⟩, .string ⟨#[100, 105, 118]⟩, .string ⟨#[112]⟩, .string ⟨#[110, 111, 110, 101]⟩] 9))) := hB11.out.alloc hB11.out.size _
      have bR12 : Hid (Box ((putCells w4 (w.heap.size) 0 [.string s, .slice y1 (kidsOf x).length y2]).alloc (.cells #[.string ⟨#[97]⟩, .string ⟨#[100, 105, 118]⟩, .string ⟨#[112]⟩, .string ⟨#[110, 111, 110, 101]⟩] 9)) (w.heap.size) [.string s, .slice y1 (kidsOf x).length y2] 33) := bR11.out.alloc _
      have bT12 : Hid (Box ((putCells w4 (w.heap.size) 0 [.string s, .slice y1 (kidsOf x).length y2]).alloc (.cells #[.string ⟨#[97]⟩, .string ⟨#[100, 105, 118]⟩, .string ⟨#[112]⟩, .string ⟨#[110, 111, 110, 101]⟩] 9)) (w2.heap.size) [.string s, .slice y1 (kidsOf x).length y2] 33) := bT11.out.alloc _
      have tb12 : Hid (Box ((putCells w4 (w.heap.size) 0 [.string s, .slice y1 (kidsOf x).length y2]).alloc (.cells #[.string ⟨#[97]⟩, .string ⟨#[100, 105, 118]⟩, .string ⟨#[112]⟩, .string ⟨#[110, 111, 110, 101]⟩] 9)) (w4.heap.size) [.string ⟨#[97]⟩, .string ⟨#[100, 105, 118]⟩, .string ⟨#[112]⟩, .string ⟨#[110, 111, 110, 101]⟩] 9) := by show Box _ _ _ _; have z := Box.new (putCells w4 (w.heap.size) 0 [.string s, .slice y1 (kidsOf x).length y2]) [.string ⟨#[97]⟩, .string ⟨#[100, 105, 118]⟩, .string ⟨#[112]⟩, .string ⟨#[110, 111, 110, 101]⟩] 9; first | exact z | (rw [putCells_size] at z; exact z)
      refine hK.out _ _ ⟨bT12.out.cell 0 rfl, bT12.out.cell 1 rfl⟩ (fun hHeld => ?_)
      clear hK K
      refine take_lit (i := 5) (d := 20) (v := ?_) rfl rfl (by kernel_rfl) (by kernel_rfl) (by kernel_rfl) (fun _ _ _ h => h) (Or.inl ⟨by rfl, ?_⟩) (by assumption) ?_
      rotate_left
      · (intro w hSw; (try dsimp only at hSw); first | (go_simp; done) | (go_simp; with_reducible rfl))
      simp only [List.set_cons_zero, List.set_cons_succ]
      refine wpAnyH_ready (rs := [6]) (by kernel_rfl) (by simp) ?_
      refine AllReadyH.cons rfl (fun K hK => ?_) AllReadyH.nil
      obtain ⟨tg, c6, htg⟩ := tab_pick tb12.out (i := i4) (by omega)
      have c7 : (((w4.setCell ⟨w.heap.size, 0, none⟩ (.string s)).setCell ⟨w.heap.size, 1, none⟩ (.slice y1 (kidsOf x).length y2)).alloc (.cells #[.string ⟨#[97]⟩, .string ⟨#[100, 105, 118]⟩, .string ⟨#[112]⟩, .string ⟨#[110, 111, 110, 101]⟩] 9)).cell? ⟨w4.heap.size, i4, none⟩ = some (.string tg) := c6
      go_simp
      refine hK.out _ _ ⟨bT12.out.cell 0 rfl, bT12.out.cell 1 rfl⟩ (fun hHeld => ?_)
      clear hK K
      refine take_lit (i := 9) (d := 4) (v := ?_) rfl rfl (by kernel_rfl) (by kernel_rfl) (by kernel_rfl) (fun _ _ _ h => h) (Or.inl ⟨by rfl, ?_⟩) (by assumption) ?_
      rotate_left
      · (intro w hSw; (try dsimp only at hSw); first | (go_simp; done) | (go_simp; with_reducible rfl))
      simp only [List.set_cons_zero, List.set_cons_succ]
      refine wpAnyH_done (by kernel_rfl) ?_ _
      have s0 : (((w4.setCell ⟨w.heap.size, 0, none⟩ (.string s)).setCell ⟨w.heap.size, 1, none⟩ (.slice y1 (kidsOf x).length y2)).alloc (.cells #[.string ⟨#[97]⟩, .string ⟨#[100, 105, 118]⟩, .string ⟨#[112]⟩, .string ⟨#[110, 111, 110, 101]⟩] 9)).cell? ⟨w.heap.size, 0, none⟩ = some (.string s) := bR12.out.cell 0 rfl
      have s1 : (((w4.setCell ⟨w.heap.size, 0, none⟩ (.string s)).setCell ⟨w.heap.size, 1, none⟩ (.slice y1 (kidsOf x).length y2)).alloc (.cells #[.string ⟨#[97]⟩, .string ⟨#[100, 105, 118]⟩, .string ⟨#[112]⟩, .string ⟨#[110, 111, 110, 101]⟩] 9)).cell? ⟨w.heap.size, 1, none⟩ = some (.slice y1 (kidsOf x).length y2) := bR12.out.cell 1 rfl
      go_wp2_with fail
      exact bodyPost_ret (v := .tuple #[.agg (List.toArray [.string s, .slice y1 (kidsOf x).length y2]), vp, .string tg]) (by simp [results, Try.results36, go_sem, s0, s1]) rfl ⟨⟨_, _, vp, x, p, tg, rfl, TreeAt.keep hK12.out.1 (Nat.zero_le _) hK12.out.2.2 4 _ _ _ ht3.out, SeqAt.keep intAt_stays hp3.out ⟨hK12.out.1, Nat.zero_le _, fun b q1 q2 => hK12.out.2.2 b (by omega) q2⟩, hpl.out, htg⟩, hB12.out⟩
end Go.Proofs.Ytddhacalnfkopaa
