/- FnBare: walked. -/
import Derived.Test.YtlcddndpfhdakaaDoorFbPlain
import Derived.Test.YtlcddndpfhdakaaDoorUmDraws
import Derived.Test.YtlcddndpfhdakaaDoorTreeTops
namespace Go.Proofs.YtlcddndpfhdakaaDoor
open Go.RowKit Go.Deep
theorem markB_form {n : Nat} {w : World} {lo : Nat} {cs : List Value} {x : MarkD} (h : MarkAt n w lo cs x) : ∃ (t1 t2 : ByteArray) (a1 : Option Addr) (n1 c1 : Nat) (a2 : Option Addr) (n2 c2 : Nat), cs = [.string t1, .string t2, .slice a1 n1 c1, .slice a2 n2 c2] := by
  obtain ⟨q2, q3, e, s2, s3, _⟩ := MarkAt.opened h
  obtain ⟨x1, x2, x3⟩ := s2.form
  obtain ⟨y1, y2, y3⟩ := s3.form
  exact ⟨_, _, x1, _, x2, y1, _, y2, by rw [e, x3, y3]⟩
set_option maxHeartbeats 1000000 in
theorem drawTreeText_any {w : World} {a : Option Addr} {n cap : Nat} (h : CodeAt w a n) :
    Calls Tryd.prog 20 #[.slice a n cap] w fun e w' => (∃ (t k : Value) (x : TD), e = .returned (.agg #[t, k]) ∧ TreeAt w' 0 5 t k x) ∧ Below w.heap.size w w' := by
  have h' : Hid (CodeAt w a n) := h
  clear h
  have hbR : Hid (Below w.heap.size w (w.alloc (.cells #[.string ⟨#[]⟩, .slice none 0 0] 36))) := (Below.refl _ _).alloc (Nat.le_refl _) _
  have bR : Hid (Box (w.alloc (.cells #[.string ⟨#[]⟩, .slice none 0 0] 36)) w.heap.size resT 36) := Box.new w _ _
  go_enter Tryd.func20, Tryd.ntmps20
  go_wp2_with fail
  refine (drawTreeOk_any (CodeAt.below h'.out hbR.out)).mono ?_
  rintro e w1 ⟨⟨t, k, x, rfl, ht⟩, hb1⟩
  obtain ⟨⟨s, rfl⟩, a1, c1, rfl⟩ := ht.form
  have hsz : (w.alloc (.cells #[.string ⟨#[]⟩, .slice none 0 0] 36)).heap.size = w.heap.size + 1 := by simp
  have ht' : Hid (TreeAt w1 (w.heap.size + 1 + 1) 5 (.string s) (.slice a1 (kidsOf x).length c1) x) := by rw [hsz] at ht; exact ht
  have bR1 : Hid (Box w1 w.heap.size resT 36) := bR.out.below hb1 bR.out.lt
  have hB1 : Hid (Below w.heap.size w w1) := hbR.out.trans (hb1.mono hbR.out.size)
  have r0 := bR1.out.cell 0 rfl
  have r1 := bR1.out.cell 1 rfl
  have fR := bR1.out.unfrozen
  clear ht hb1 hsz
  go_wp2_with fail
  have z1 := Box.set (i := 1) (Box.set (i := 0) bR1.out (.string s)) (.slice a1 (kidsOf x).length c1)
  have z10 := z1.cell 0 rfl
  have z11 := z1.cell 1 rfl
  refine bodyPost_ret (v := .agg #[.string s, .slice a1 (kidsOf x).length c1]) (by simp [results, Tryd.results20, go_sem, z10, z11]) rfl ⟨⟨_, _, x, rfl, ?_⟩, (hB1.out.setCell (p := ⟨w.heap.size, 0, none⟩) (Nat.le_refl _) _).setCell (p := ⟨w.heap.size, 1, none⟩) (Nat.le_refl _) _⟩
  exact TreeAt.keep (by rw [set_size, set_size]; exact Nat.le_refl _) (Nat.zero_le _) (fun b h1 h2 => by rw [set_other (by omega), set_other (by omega)]) 5 _ _ x ht'.out
set_option maxHeartbeats 1000000 in
theorem bigB_any {a : Option Addr} {n cap : Nat} (w : World) : Calls Tryd.prog 6 #[.slice a n cap] w fun e w' => e = .returned (.bool (decide ((1048576 : Int) < (n : Int)))) ∧ w' = w := by
  go_enter Tryd.func6, Tryd.ntmps6
  go_wp2_with fail
  go_ret
  exact ⟨rfl, rfl⟩
set_option maxRecDepth 100000 in
set_option maxHeartbeats 8000000 in
theorem fnBare.walk {a : Option Addr} {n cap : Nat} (w : World) (_ : n ≤ maxLen) (hcode : n ≤ 1048576 → CodeAt w a n) (hsg0 : Signs w) :
    Calls Tryd.prog 4 #[.slice a n cap] w fun e w' => e = .returned (.bool true) ∧ Below w.heap.size w w' := by
  have hsg : Hid (Signs w) := hsg0
  clear hsg0
  by_cases hbig : (1048576 : Int) < (n : Int)
  · go_enter Tryd.func4, Tryd.ntmps4
    go_wp2_with (go_at_call 6; refine (bigB_any _).mono ?_; rintro e w' ⟨rfl, rfl⟩; rw [decide_eq_true hbig])
    go_ret
    exact ⟨rfl, Below.refl _ _⟩
  have hCd : Hid (CodeAt w a n) := hcode (by omega)
  clear hcode
  go_enter Tryd.func4, Tryd.ntmps4
  go_wp2_with (go_at_call 6; refine (bigB_any _).mono ?_; rintro e w' ⟨rfl, e9⟩; have e10 := e9.symm; clear e9; subst e10; rw [decide_eq_false hbig])
  have hBel : Hid (Below w.heap.size w w) := Below.refl _ _
  refine (drawBare_any hCd.out).mono ?_
  rintro e w1 ⟨⟨csM, x, rfl, ht1⟩, hb1⟩
  obtain ⟨mt, mx, ma, ml, mc, na, nl, nc, rfl⟩ : ∃ (t1 t2 : ByteArray) (a1 : Option Addr) (n1 c1 : Nat) (a2 : Option Addr) (n2 c2 : Nat), csM = [.string t1, .string t2, .slice a1 n1 c1, .slice a2 n2 c2] := markB_form ht1
  replace hBel : Hid (Below w.heap.size w w1) := hBel.out.trans (hb1.mono hBel.out.size)
  replace hsg : Hid (Signs w1) := Signs.below hsg.out hb1 hsg.out.lt
  replace hCd : Hid (CodeAt w1 a n) := hCd.out.below hb1
  clear hb1
  have htM : Hid (MarkAt 4 w1 0 [.string mt, .string mx, .slice ma ml mc, .slice na nl nc] x) := MarkAt_stays 4 _ _ _ _ _ _ (.lower (Nat.zero_le _)) ht1
  have hmt : Hid (mt = x.vTag) := by obtain ⟨_, _, e, _⟩ := MarkAt.opened ht1; injection e with e1 _; injection e1
  clear ht1 hbig
  have hbA : Below w1.heap.size w1 (w1.alloc (.cells #[.string mt, .string mx, .slice ma ml mc, .slice na nl nc] 27)) := (Below.refl _ _).alloc (Nat.le_refl _) _
  replace hBel : Hid (Below w.heap.size w (w1.alloc (.cells #[.string mt, .string mx, .slice ma ml mc, .slice na nl nc] 27))) := hBel.out.trans (hbA.mono hBel.out.size)
  replace hsg : Hid (Signs (w1.alloc (.cells #[.string mt, .string mx, .slice ma ml mc, .slice na nl nc] 27))) := Signs.below hsg.out hbA hsg.out.lt
  replace hCd : Hid (CodeAt (w1.alloc (.cells #[.string mt, .string mx, .slice ma ml mc, .slice na nl nc] 27)) a n) := hCd.out.below hbA
  replace htM : Hid (MarkAt 4 (w1.alloc (.cells #[.string mt, .string mx, .slice ma ml mc, .slice na nl nc] 27)) 0 [.string mt, .string mx, .slice ma ml mc, .slice na nl nc] x) := MarkAt.below htM.out hbA
  have bxBM : Hid (Box (w1.alloc (.cells #[.string mt, .string mx, .slice ma ml mc, .slice na nl nc] 27)) w1.heap.size [.string mt, .string mx, .slice ma ml mc, .slice na nl nc] 27) := Box.new w1 _ _
  clear hbA
  go_wp2_with fail
  generalize (w1.alloc (.cells #[.string mt, .string mx, .slice ma ml mc, .slice na nl nc] 27)) = w2 at *
  generalize w1.heap.size = BM at *
  refine (implBare_any htM.out).mono ?_
  rintro e w3 ⟨⟨csT, fT, rfl, ownT, _, _⟩, hb3⟩
  replace hBel : Hid (Below w.heap.size w w3) := hBel.out.trans (hb3.mono hBel.out.size)
  replace hsg : Hid (Signs w3) := Signs.below hsg.out hb3 hsg.out.lt
  replace hCd : Hid (CodeAt w3 a n) := hCd.out.below hb3
  replace htM : Hid (MarkAt 4 w3 0 [.string mt, .string mx, .slice ma ml mc, .slice na nl nc] x) := MarkAt.below htM.out hb3
  replace bxBM : Hid (Box w3 BM [.string mt, .string mx, .slice ma ml mc, .slice na nl nc] 27) := bxBM.out.below hb3 bxBM.out.lt
  clear hb3
  have hR4 : Hid ((bareR 4 x).2 = true → okB (szD 4 (bareR 4 x).1 30) = true ∧ strT (bareR 4 x).1 = x.vTag) := bareR_right
  generalize hYS : bareR 4 x = rr at ownT hR4 ⊢
  have hYS' : Hid (bareR 4 x = rr) := hYS
  clear hYS
  obtain ⟨td, bb⟩ := rr
  dsimp only at ownT hR4 ⊢
  have haT := TreeO_at (lo := 0) _ _ _ _ _ ownT (fun _ _ => Nat.zero_le _)
  obtain ⟨ta, tl, tc, rfl⟩ : ∃ (ta : Option Addr) (tl tc : Nat), csT = [.string (strT td), .slice ta tl tc] := by obtain ⟨k, e, h3, _⟩ := ownT.opened; obtain ⟨y1, y2, y3⟩ := h3.form; exact ⟨y1, _, y2, by rw [e, y3]⟩
  have htT : Hid (TreeAt w3 0 4 (.string (strT td)) (.slice ta tl tc) td) := TreeL.at _ _ _ _ haT
  clear haT ownT
  have hbA : Below w3.heap.size w3 (w3.alloc (.cells #[.string (strT td), .slice ta tl tc] 36)) := (Below.refl _ _).alloc (Nat.le_refl _) _
  replace hBel : Hid (Below w.heap.size w (w3.alloc (.cells #[.string (strT td), .slice ta tl tc] 36))) := hBel.out.trans (hbA.mono hBel.out.size)
  replace hsg : Hid (Signs (w3.alloc (.cells #[.string (strT td), .slice ta tl tc] 36))) := Signs.below hsg.out hbA hsg.out.lt
  replace hCd : Hid (CodeAt (w3.alloc (.cells #[.string (strT td), .slice ta tl tc] 36)) a n) := hCd.out.below hbA
  replace htM : Hid (MarkAt 4 (w3.alloc (.cells #[.string (strT td), .slice ta tl tc] 36)) 0 [.string mt, .string mx, .slice ma ml mc, .slice na nl nc] x) := MarkAt.below htM.out hbA
  replace bxBM : Hid (Box (w3.alloc (.cells #[.string (strT td), .slice ta tl tc] 36)) BM [.string mt, .string mx, .slice ma ml mc, .slice na nl nc] 27) := bxBM.out.below hbA bxBM.out.lt
  replace htT : Hid (TreeAt (w3.alloc (.cells #[.string (strT td), .slice ta tl tc] 36)) 0 4 (.string (strT td)) (.slice ta tl tc) td) := htT.out.below hbA
  have bxBT : Hid (Box (w3.alloc (.cells #[.string (strT td), .slice ta tl tc] 36)) w3.heap.size [.string (strT td), .slice ta tl tc] 36) := Box.new w3 _ _
  have cM0 := bxBM.out.cell 0 rfl
  have cM1 := bxBM.out.cell 1 rfl
  have cM2 := bxBM.out.cell 2 rfl
  have cM3 := bxBM.out.cell 3 rfl
  clear hbA
  go_wp2_with fail
  generalize (w3.alloc (.cells #[.string (strT td), .slice ta tl tc] 36)) = w4 at *
  generalize w3.heap.size = BT at *
  clear cM0 cM1 cM2 cM3
  refine (specBare_any htM.out).mono ?_
  rintro e w5 ⟨⟨csW, fW, rfl, ownW, _, _⟩, hb5⟩
  rw [hYS'.out] at ownW ⊢
  dsimp only at ownW ⊢
  replace hBel : Hid (Below w.heap.size w w5) := hBel.out.trans (hb5.mono hBel.out.size)
  replace hsg : Hid (Signs w5) := Signs.below hsg.out hb5 hsg.out.lt
  replace hCd : Hid (CodeAt w5 a n) := hCd.out.below hb5
  replace htM : Hid (MarkAt 4 w5 0 [.string mt, .string mx, .slice ma ml mc, .slice na nl nc] x) := MarkAt.below htM.out hb5
  replace bxBM : Hid (Box w5 BM [.string mt, .string mx, .slice ma ml mc, .slice na nl nc] 27) := bxBM.out.below hb5 bxBM.out.lt
  replace htT : Hid (TreeAt w5 0 4 (.string (strT td)) (.slice ta tl tc) td) := htT.out.below hb5
  replace bxBT : Hid (Box w5 BT [.string (strT td), .slice ta tl tc] 36) := bxBT.out.below hb5 bxBT.out.lt
  clear hb5
  have haW := TreeO_at (lo := 0) _ _ _ _ _ ownW (fun _ _ => Nat.zero_le _)
  obtain ⟨wa, wl, wc, rfl⟩ : ∃ (wa : Option Addr) (wl wc : Nat), csW = [.string (strT td), .slice wa wl wc] := by obtain ⟨k, e, h3, _⟩ := ownW.opened; obtain ⟨y1, y2, y3⟩ := h3.form; exact ⟨y1, _, y2, by rw [e, y3]⟩
  have htW : Hid (TreeAt w5 0 4 (.string (strT td)) (.slice wa wl wc) td) := TreeL.at _ _ _ _ haW
  clear haW ownW
  have hbA : Below w5.heap.size w5 (w5.alloc (.cells #[.string (strT td), .slice wa wl wc] 36)) := (Below.refl _ _).alloc (Nat.le_refl _) _
  replace hBel : Hid (Below w.heap.size w (w5.alloc (.cells #[.string (strT td), .slice wa wl wc] 36))) := hBel.out.trans (hbA.mono hBel.out.size)
  replace hsg : Hid (Signs (w5.alloc (.cells #[.string (strT td), .slice wa wl wc] 36))) := Signs.below hsg.out hbA hsg.out.lt
  replace hCd : Hid (CodeAt (w5.alloc (.cells #[.string (strT td), .slice wa wl wc] 36)) a n) := hCd.out.below hbA
  replace htM : Hid (MarkAt 4 (w5.alloc (.cells #[.string (strT td), .slice wa wl wc] 36)) 0 [.string mt, .string mx, .slice ma ml mc, .slice na nl nc] x) := MarkAt.below htM.out hbA
  replace bxBM : Hid (Box (w5.alloc (.cells #[.string (strT td), .slice wa wl wc] 36)) BM [.string mt, .string mx, .slice ma ml mc, .slice na nl nc] 27) := bxBM.out.below hbA bxBM.out.lt
  replace htT : Hid (TreeAt (w5.alloc (.cells #[.string (strT td), .slice wa wl wc] 36)) 0 4 (.string (strT td)) (.slice ta tl tc) td) := htT.out.below hbA
  replace bxBT : Hid (Box (w5.alloc (.cells #[.string (strT td), .slice wa wl wc] 36)) BT [.string (strT td), .slice ta tl tc] 36) := bxBT.out.below hbA bxBT.out.lt
  replace htW : Hid (TreeAt (w5.alloc (.cells #[.string (strT td), .slice wa wl wc] 36)) 0 4 (.string (strT td)) (.slice wa wl wc) td) := htW.out.below hbA
  have bxBW : Hid (Box (w5.alloc (.cells #[.string (strT td), .slice wa wl wc] 36)) w5.heap.size [.string (strT td), .slice wa wl wc] 36) := Box.new w5 _ _
  clear hbA
  cases bb
  · clear hR4 hYS' hmt
    go_wp2_with fail
    generalize (w5.alloc (.cells #[.string (strT td), .slice wa wl wc] 36)) = w9 at *
    generalize w5.heap.size = BW at *
    replace hBel : Hid (Below w.heap.size w w9.drew) := hBel.out.drew
    replace hsg : Hid (Signs w9.drew) := hsg.out
    replace hCd : Hid (CodeAt w9.drew a n) := hCd.out.below (Below.drew (Below.refl _ _))
    replace htM : Hid (MarkAt 4 w9.drew 0 [.string mt, .string mx, .slice ma ml mc, .slice na nl nc] x) := MarkAt.below htM.out (Below.drew (Below.refl _ _))
    replace bxBM : Hid (Box w9.drew BM [.string mt, .string mx, .slice ma ml mc, .slice na nl nc] 27) := bxBM.out
    replace htT : Hid (TreeAt w9.drew 0 4 (.string (strT td)) (.slice ta tl tc) td) := htT.out.below (Below.drew (Below.refl _ _))
    replace bxBT : Hid (Box w9.drew BT [.string (strT td), .slice ta tl tc] 36) := bxBT.out
    replace htW : Hid (TreeAt w9.drew 0 4 (.string (strT td)) (.slice wa wl wc) td) := htW.out.below (Below.drew (Below.refl _ _))
    replace bxBW : Hid (Box w9.drew BW [.string (strT td), .slice wa wl wc] 36) := bxBW.out
    refine wp_region_held_drew (S := fun w' => w'.cell? ⟨BT, 0, none⟩ = some (.string (strT td)) ∧ w'.cell? ⟨BT, 1, none⟩ = some (.slice ta tl tc) ∧ w'.cell? ⟨BW, 0, none⟩ = some (.string (strT td)) ∧ w'.cell? ⟨BW, 1, none⟩ = some (.slice wa wl wc) ∧ w'.cell? ⟨BM, 0, none⟩ = some (.string mt)) (by kernel_rfl) ⟨bxBT.out.cell 0 rfl, bxBT.out.cell 1 rfl, bxBW.out.cell 0 rfl, bxBW.out.cell 1 rfl, bxBM.out.cell 0 rfl⟩ (fun hHeld => ?_)
    refine tq (i := 0) (d := 27) ?_
    simp only [sz, ss]
    refine tq (i := 1) (d := 28) ?_
    simp only [sz, ss]
    refine tq (i := 2) (d := 29) ?_
    simp only [sz, ss]
    refine tq (i := 3) (d := 30) ?_
    simp only [sz, ss]
    refine tq (i := 4) (d := 31) ?_
    simp only [sz, ss]
    refine tq (i := 6) (d := 33) ?_
    simp only [sz, ss]
    refine wpAnyH_ready (rs := [5]) (by kernel_rfl) (by simp) ?_
    refine AllReadyH.cons rfl (fun K hK => ?_) AllReadyH.nil
    go_simp
    refine (implTreeText_any (by exact htT.out)).mono ?_
    rintro e w1 ⟨rfl, hb1⟩
    replace hBel : Hid (Below w.heap.size w w1) := hBel.out.trans (hb1.mono hBel.out.size)
    replace hsg : Hid (Signs w1) := Signs.below hsg.out hb1 hsg.out.lt
    replace hCd : Hid (CodeAt w1 a n) := hCd.out.below hb1
    replace htM : Hid (MarkAt 4 w1 0 [.string mt, .string mx, .slice ma ml mc, .slice na nl nc] x) := MarkAt.below htM.out hb1
    replace bxBM : Hid (Box w1 BM [.string mt, .string mx, .slice ma ml mc, .slice na nl nc] 27) := bxBM.out.below hb1 bxBM.out.lt
    replace htT : Hid (TreeAt w1 0 4 (.string (strT td)) (.slice ta tl tc) td) := htT.out.below hb1
    replace bxBT : Hid (Box w1 BT [.string (strT td), .slice ta tl tc] 36) := bxBT.out.below hb1 bxBT.out.lt
    replace htW : Hid (TreeAt w1 0 4 (.string (strT td)) (.slice wa wl wc) td) := htW.out.below hb1
    replace bxBW : Hid (Box w1 BW [.string (strT td), .slice wa wl wc] 36) := bxBW.out.below hb1 bxBW.out.lt
    refine hK.out _ _ ⟨cell_on hb1 hHeld.1, cell_on hb1 hHeld.2.1, cell_on hb1 hHeld.2.2.1, cell_on hb1 hHeld.2.2.2.1, cell_on hb1 hHeld.2.2.2.2⟩ (fun hHeld => ?_)
    clear hK K
    refine wpAnyH_ready (rs := [7]) (by kernel_rfl) (by simp) ?_
    refine AllReadyH.cons rfl (fun K hK => ?_) AllReadyH.nil
    go_simp
    refine (implTreeText_any (by exact htW.out)).mono ?_
    rintro e w1 ⟨rfl, hb1⟩
    replace hBel : Hid (Below w.heap.size w w1) := hBel.out.trans (hb1.mono hBel.out.size)
    replace hsg : Hid (Signs w1) := Signs.below hsg.out hb1 hsg.out.lt
    replace hCd : Hid (CodeAt w1 a n) := hCd.out.below hb1
    replace htM : Hid (MarkAt 4 w1 0 [.string mt, .string mx, .slice ma ml mc, .slice na nl nc] x) := MarkAt.below htM.out hb1
    replace bxBM : Hid (Box w1 BM [.string mt, .string mx, .slice ma ml mc, .slice na nl nc] 27) := bxBM.out.below hb1 bxBM.out.lt
    replace htT : Hid (TreeAt w1 0 4 (.string (strT td)) (.slice ta tl tc) td) := htT.out.below hb1
    replace bxBT : Hid (Box w1 BT [.string (strT td), .slice ta tl tc] 36) := bxBT.out.below hb1 bxBT.out.lt
    replace htW : Hid (TreeAt w1 0 4 (.string (strT td)) (.slice wa wl wc) td) := htW.out.below hb1
    replace bxBW : Hid (Box w1 BW [.string (strT td), .slice wa wl wc] 36) := bxBW.out.below hb1 bxBW.out.lt
    refine hK.out _ _ ⟨cell_on hb1 hHeld.1, cell_on hb1 hHeld.2.1, cell_on hb1 hHeld.2.2.1, cell_on hb1 hHeld.2.2.2.1, cell_on hb1 hHeld.2.2.2.2⟩ (fun hHeld => ?_)
    clear hK K
    refine tq (i := 8) (d := 35) ?_
    simp only [sz, ss]
    refine tq (i := 9) (d := 36) ?_
    simp only [sz, ss]
    refine tq (i := 10) (d := 37) ?_
    simp only [sz, ss]
    refine tq (i := 11) (d := 38) ?_
    simp only [sz, ss]
    refine tq (i := 12) (d := 39) ?_
    simp only [sz, ss]
    refine tn (i := 13) (d := 40) ?_
    simp only [sz, ss]
    refine tn (i := 14) (d := 41) ?_
    simp only [sz, ss]
    refine tn (i := 15) (d := 42) ?_
    simp only [sz, ss]
    refine tn (i := 16) (d := 43) ?_
    simp only [sz, ss]
    refine tn (i := 17) (d := 44) ?_
    simp only [sz, ss]
    refine tn (i := 18) (d := 45) ?_
    simp only [sz, ss]
    refine tn (i := 19) (d := 46) ?_
    simp only [sz, ss]
    refine tn (i := 20) (d := 47) ?_
    simp only [sz, ss]
    refine tn (i := 21) (d := 48) ?_
    simp only [sz, ss]
    refine tn (i := 22) (d := 49) ?_
    simp only [sz, ss]
    refine tq (i := 23) (d := 50) ?_
    simp only [sz, ss]
    refine tq (i := 24) (d := 51) ?_
    simp only [sz, ss]
    refine wpAnyH_done (by kernel_rfl) ?_ _
    clear htM htT htW bxBM bxBT bxBW
    go_wp2_with fail
    refine (drawTreeText_any hCd.out).mono ?_
    rintro e w6 ⟨⟨vt0, vk0, d, rfl, ht6⟩, hb6⟩
    replace hBel : Hid (Below w.heap.size w w6) := hBel.out.trans (hb6.mono hBel.out.size)
    replace hsg : Hid (Signs w6) := Signs.below hsg.out hb6 hsg.out.lt
    replace hCd : Hid (CodeAt w6 a n) := hCd.out.below hb6
    obtain ⟨⟨ut, rfl⟩, ua, uc, rfl⟩ := ht6.form
    generalize hul : (kidsOf d).length = ul at ht6 ⊢
    clear hul hb6
    have htU : Hid (TreeAt w6 0 5 (.string ut) (.slice ua ul uc) d) := ht6
    clear ht6
    have hbA : Below w6.heap.size w6 (w6.alloc (.cells #[.string ut, .slice ua ul uc] 36)) := (Below.refl _ _).alloc (Nat.le_refl _) _
    replace hBel : Hid (Below w.heap.size w (w6.alloc (.cells #[.string ut, .slice ua ul uc] 36))) := hBel.out.trans (hbA.mono hBel.out.size)
    replace hsg : Hid (Signs (w6.alloc (.cells #[.string ut, .slice ua ul uc] 36))) := Signs.below hsg.out hbA hsg.out.lt
    replace hCd : Hid (CodeAt (w6.alloc (.cells #[.string ut, .slice ua ul uc] 36)) a n) := hCd.out.below hbA
    replace htU : Hid (TreeAt (w6.alloc (.cells #[.string ut, .slice ua ul uc] 36)) 0 5 (.string ut) (.slice ua ul uc) d) := htU.out.below hbA
    have bxBU : Hid (Box (w6.alloc (.cells #[.string ut, .slice ua ul uc] 36)) w6.heap.size [.string ut, .slice ua ul uc] 36) := Box.new w6 _ _
    clear hbA
    go_wp2_with fail
    generalize (w6.alloc (.cells #[.string ut, .slice ua ul uc] 36)) = w7 at *
    generalize w6.heap.size = BU at *
    refine (specTreeOk_any htU.out).mono ?_
    rintro e w8 ⟨rfl, hb8⟩
    replace hBel : Hid (Below w.heap.size w w8) := hBel.out.trans (hb8.mono hBel.out.size)
    replace hsg : Hid (Signs w8) := Signs.below hsg.out hb8 hsg.out.lt
    replace hCd : Hid (CodeAt w8 a n) := hCd.out.below hb8
    replace htU : Hid (TreeAt w8 0 5 (.string ut) (.slice ua ul uc) d) := htU.out.below hb8
    replace bxBU : Hid (Box w8 BU [.string ut, .slice ua ul uc] 36) := bxBU.out.below hb8 bxBU.out.lt
    clear hb8
    cases hok : okB (szD 5 d 30)
    · go_wp2_with fail
      go_ret
      exact ⟨rfl, hBel.out⟩
    have hok' : Hid (okB (szD 5 d 30) = true) := hok
    clear hok
    have u0 := bxBU.out.cell 0 rfl
    have u1 := bxBU.out.cell 1 rfl
    go_wp2_with fail
    clear u0 u1
    refine (implTreeText_any htU.out).mono ?_
    rintro e w10 ⟨rfl, hb10⟩
    replace hBel : Hid (Below w.heap.size w w10) := hBel.out.trans (hb10.mono hBel.out.size)
    replace hsg : Hid (Signs w10) := Signs.below hsg.out hb10 hsg.out.lt
    replace hCd : Hid (CodeAt w10 a n) := hCd.out.below hb10
    replace htU : Hid (TreeAt w10 0 5 (.string ut) (.slice ua ul uc) d) := htU.out.below hb10
    replace bxBU : Hid (Box w10 BU [.string ut, .slice ua ul uc] 36) := bxBU.out.below hb10 bxBU.out.lt
    clear hb10
    go_wp2_with fail
    refine (implReadMark_any (s := textR 5 d) (Nat.le_trans textR_few (by omega)) hsg.out).mono ?_
    rintro e w11 ⟨csN, u, fN, bu, rfl, ownN, _, _, hRU0, hb11⟩
    replace hBel : Hid (Below w.heap.size w w11) := hBel.out.trans (hb11.mono hBel.out.size)
    replace hsg : Hid (Signs w11) := Signs.below hsg.out hb11 hsg.out.lt
    replace hCd : Hid (CodeAt w11 a n) := hCd.out.below hb11
    replace htU : Hid (TreeAt w11 0 5 (.string ut) (.slice ua ul uc) d) := htU.out.below hb11
    replace bxBU : Hid (Box w11 BU [.string ut, .slice ua ul uc] 36) := bxBU.out.below hb11 bxBU.out.lt
    clear hb11
    obtain ⟨rfl, e2, e3, e4⟩ := readsM_tree (by omega) hok'.out hRU0
    have hMT : Hid (mtR 31 u = textR 5 d) := e2
    have haN := MarkOwn_at (lo := 0) _ _ _ _ _ ownN (fun _ _ => Nat.zero_le _)
    obtain ⟨nt, nx, pa, pl, pc, qa, ql, qc, rfl⟩ : ∃ (t1 t2 : ByteArray) (a1 : Option Addr) (n1 c1 : Nat) (a2 : Option Addr) (n2 c2 : Nat), csN = [.string t1, .string t2, .slice a1 n1 c1, .slice a2 n2 c2] := markB_form haN
    have htN : Hid (MarkAt 31 w11 0 [.string nt, .string nx, .slice pa pl pc, .slice qa ql qc] u) := haN
    clear haN ownN e2 hRU0
    have hbA : Below w11.heap.size w11 (w11.alloc (.cells #[.string nt, .string nx, .slice pa pl pc, .slice qa ql qc] 27)) := (Below.refl _ _).alloc (Nat.le_refl _) _
    replace hBel : Hid (Below w.heap.size w (w11.alloc (.cells #[.string nt, .string nx, .slice pa pl pc, .slice qa ql qc] 27))) := hBel.out.trans (hbA.mono hBel.out.size)
    replace hsg : Hid (Signs (w11.alloc (.cells #[.string nt, .string nx, .slice pa pl pc, .slice qa ql qc] 27))) := Signs.below hsg.out hbA hsg.out.lt
    replace hCd : Hid (CodeAt (w11.alloc (.cells #[.string nt, .string nx, .slice pa pl pc, .slice qa ql qc] 27)) a n) := hCd.out.below hbA
    replace htU : Hid (TreeAt (w11.alloc (.cells #[.string nt, .string nx, .slice pa pl pc, .slice qa ql qc] 27)) 0 5 (.string ut) (.slice ua ul uc) d) := htU.out.below hbA
    replace bxBU : Hid (Box (w11.alloc (.cells #[.string nt, .string nx, .slice pa pl pc, .slice qa ql qc] 27)) BU [.string ut, .slice ua ul uc] 36) := bxBU.out.below hbA bxBU.out.lt
    replace htN : Hid (MarkAt 31 (w11.alloc (.cells #[.string nt, .string nx, .slice pa pl pc, .slice qa ql qc] 27)) 0 [.string nt, .string nx, .slice pa pl pc, .slice qa ql qc] u) := MarkAt.below htN.out hbA
    have bxBN : Hid (Box (w11.alloc (.cells #[.string nt, .string nx, .slice pa pl pc, .slice qa ql qc] 27)) w11.heap.size [.string nt, .string nx, .slice pa pl pc, .slice qa ql qc] 27) := Box.new w11 _ _
    clear hbA
    go_wp2_with fail
    generalize (w11.alloc (.cells #[.string nt, .string nx, .slice pa pl pc, .slice qa ql qc] 27)) = w12 at *
    generalize w11.heap.size = BN at *
    refine (implBare_any htN.out).mono ?_
    rintro e w13 ⟨⟨csV, fV, rfl, ownV, _, _⟩, hb13⟩
    replace hBel : Hid (Below w.heap.size w w13) := hBel.out.trans (hb13.mono hBel.out.size)
    replace hsg : Hid (Signs w13) := Signs.below hsg.out hb13 hsg.out.lt
    replace hCd : Hid (CodeAt w13 a n) := hCd.out.below hb13
    replace htU : Hid (TreeAt w13 0 5 (.string ut) (.slice ua ul uc) d) := htU.out.below hb13
    replace bxBU : Hid (Box w13 BU [.string ut, .slice ua ul uc] 36) := bxBU.out.below hb13 bxBU.out.lt
    replace htN : Hid (MarkAt 31 w13 0 [.string nt, .string nx, .slice pa pl pc, .slice qa ql qc] u) := MarkAt.below htN.out hb13
    replace bxBN : Hid (Box w13 BN [.string nt, .string nx, .slice pa pl pc, .slice qa ql qc] 27) := bxBN.out.below hb13 bxBN.out.lt
    clear hb13
    generalize hYV : bareR 31 u = rv at ownV e3 e4 ⊢
    obtain ⟨vd, bv⟩ := rv
    dsimp only at ownV e3 e4 ⊢
    subst e3
    have hTV : Hid (textR 31 vd = textR 5 d) := e4
    have haV := TreeO_at (lo := 0) _ _ _ _ _ ownV (fun _ _ => Nat.zero_le _)
    obtain ⟨va, vl, vc, rfl⟩ : ∃ (va : Option Addr) (vl vc : Nat), csV = [.string (strT vd), .slice va vl vc] := by obtain ⟨k, e, h3, _⟩ := ownV.opened; obtain ⟨y1, y2, y3⟩ := h3.form; exact ⟨y1, _, y2, by rw [e, y3]⟩
    have htV : Hid (TreeAt w13 0 31 (.string (strT vd)) (.slice va vl vc) vd) := TreeL.at _ _ _ _ haV
    clear haV ownV e4 hYV
    have hbA : Below w13.heap.size w13 (w13.alloc (.cells #[.string (strT vd), .slice va vl vc] 36)) := (Below.refl _ _).alloc (Nat.le_refl _) _
    replace hBel : Hid (Below w.heap.size w (w13.alloc (.cells #[.string (strT vd), .slice va vl vc] 36))) := hBel.out.trans (hbA.mono hBel.out.size)
    replace hsg : Hid (Signs (w13.alloc (.cells #[.string (strT vd), .slice va vl vc] 36))) := Signs.below hsg.out hbA hsg.out.lt
    replace hCd : Hid (CodeAt (w13.alloc (.cells #[.string (strT vd), .slice va vl vc] 36)) a n) := hCd.out.below hbA
    replace htU : Hid (TreeAt (w13.alloc (.cells #[.string (strT vd), .slice va vl vc] 36)) 0 5 (.string ut) (.slice ua ul uc) d) := htU.out.below hbA
    replace bxBU : Hid (Box (w13.alloc (.cells #[.string (strT vd), .slice va vl vc] 36)) BU [.string ut, .slice ua ul uc] 36) := bxBU.out.below hbA bxBU.out.lt
    replace htN : Hid (MarkAt 31 (w13.alloc (.cells #[.string (strT vd), .slice va vl vc] 36)) 0 [.string nt, .string nx, .slice pa pl pc, .slice qa ql qc] u) := MarkAt.below htN.out hbA
    replace bxBN : Hid (Box (w13.alloc (.cells #[.string (strT vd), .slice va vl vc] 36)) BN [.string nt, .string nx, .slice pa pl pc, .slice qa ql qc] 27) := bxBN.out.below hbA bxBN.out.lt
    replace htV : Hid (TreeAt (w13.alloc (.cells #[.string (strT vd), .slice va vl vc] 36)) 0 31 (.string (strT vd)) (.slice va vl vc) vd) := htV.out.below hbA
    have bxBV : Hid (Box (w13.alloc (.cells #[.string (strT vd), .slice va vl vc] 36)) w13.heap.size [.string (strT vd), .slice va vl vc] 36) := Box.new w13 _ _
    clear hbA
    go_wp2_with fail
    generalize (w13.alloc (.cells #[.string (strT vd), .slice va vl vc] 36)) = w14 at *
    generalize w13.heap.size = BV at *
    replace hBel : Hid (Below w.heap.size w w14.drew) := hBel.out.drew
    replace hsg : Hid (Signs w14.drew) := hsg.out
    replace hCd : Hid (CodeAt w14.drew a n) := hCd.out.below (Below.drew (Below.refl _ _))
    replace htU : Hid (TreeAt w14.drew 0 5 (.string ut) (.slice ua ul uc) d) := htU.out.below (Below.drew (Below.refl _ _))
    replace bxBU : Hid (Box w14.drew BU [.string ut, .slice ua ul uc] 36) := bxBU.out
    replace htN : Hid (MarkAt 31 w14.drew 0 [.string nt, .string nx, .slice pa pl pc, .slice qa ql qc] u) := MarkAt.below htN.out (Below.drew (Below.refl _ _))
    replace bxBN : Hid (Box w14.drew BN [.string nt, .string nx, .slice pa pl pc, .slice qa ql qc] 27) := bxBN.out
    replace htV : Hid (TreeAt w14.drew 0 31 (.string (strT vd)) (.slice va vl vc) vd) := htV.out.below (Below.drew (Below.refl _ _))
    replace bxBV : Hid (Box w14.drew BV [.string (strT vd), .slice va vl vc] 36) := bxBV.out
    refine wp_region_held_drew (S := fun w' => w'.cell? ⟨BV, 0, none⟩ = some (.string (strT vd)) ∧ w'.cell? ⟨BV, 1, none⟩ = some (.slice va vl vc) ∧ w'.cell? ⟨BU, 0, none⟩ = some (.string ut) ∧ w'.cell? ⟨BU, 1, none⟩ = some (.slice ua ul uc) ∧ w'.cell? ⟨BN, 0, none⟩ = some (.string nt) ∧ w'.cell? ⟨BN, 1, none⟩ = some (.string nx) ∧ w'.cell? ⟨BN, 2, none⟩ = some (.slice pa pl pc) ∧ w'.cell? ⟨BN, 3, none⟩ = some (.slice qa ql qc)) (by kernel_rfl) ⟨bxBV.out.cell 0 rfl, bxBV.out.cell 1 rfl, bxBU.out.cell 0 rfl, bxBU.out.cell 1 rfl, bxBN.out.cell 0 rfl, bxBN.out.cell 1 rfl, bxBN.out.cell 2 rfl, bxBN.out.cell 3 rfl⟩ (fun hHeld => ?_)
    refine tq (i := 0) (d := 68) ?_
    simp only [sz, ss]
    refine tq (i := 1) (d := 69) ?_
    simp only [sz, ss]
    refine tq (i := 2) (d := 70) ?_
    simp only [sz, ss]
    refine tq (i := 3) (d := 71) ?_
    simp only [sz, ss]
    refine tq (i := 4) (d := 72) ?_
    simp only [sz, ss]
    refine tq (i := 5) (d := 73) ?_
    simp only [sz, ss]
    refine tq (i := 7) (d := 75) ?_
    simp only [sz, ss]
    refine wpAnyH_ready (rs := [6]) (by kernel_rfl) (by simp) ?_
    refine AllReadyH.cons rfl (fun K hK => ?_) AllReadyH.nil
    go_simp
    refine (implTreeText_any (by exact htV.out)).mono ?_
    rintro e w1 ⟨rfl, hb1⟩
    replace hBel : Hid (Below w.heap.size w w1) := hBel.out.trans (hb1.mono hBel.out.size)
    replace hsg : Hid (Signs w1) := Signs.below hsg.out hb1 hsg.out.lt
    replace hCd : Hid (CodeAt w1 a n) := hCd.out.below hb1
    replace htU : Hid (TreeAt w1 0 5 (.string ut) (.slice ua ul uc) d) := htU.out.below hb1
    replace bxBU : Hid (Box w1 BU [.string ut, .slice ua ul uc] 36) := bxBU.out.below hb1 bxBU.out.lt
    replace htN : Hid (MarkAt 31 w1 0 [.string nt, .string nx, .slice pa pl pc, .slice qa ql qc] u) := MarkAt.below htN.out hb1
    replace bxBN : Hid (Box w1 BN [.string nt, .string nx, .slice pa pl pc, .slice qa ql qc] 27) := bxBN.out.below hb1 bxBN.out.lt
    replace htV : Hid (TreeAt w1 0 31 (.string (strT vd)) (.slice va vl vc) vd) := htV.out.below hb1
    replace bxBV : Hid (Box w1 BV [.string (strT vd), .slice va vl vc] 36) := bxBV.out.below hb1 bxBV.out.lt
    rw [hTV.out]
    refine hK.out _ _ ⟨cell_on hb1 hHeld.1, cell_on hb1 hHeld.2.1, cell_on hb1 hHeld.2.2.1, cell_on hb1 hHeld.2.2.2.1, cell_on hb1 hHeld.2.2.2.2.1, cell_on hb1 hHeld.2.2.2.2.2.1, cell_on hb1 hHeld.2.2.2.2.2.2.1, cell_on hb1 hHeld.2.2.2.2.2.2.2⟩ (fun hHeld => ?_)
    clear hK K
    refine wpAnyH_ready (rs := [8]) (by kernel_rfl) (by simp) ?_
    refine AllReadyH.cons rfl (fun K hK => ?_) AllReadyH.nil
    go_simp
    refine (implTreeText_any (by exact htU.out)).mono ?_
    rintro e w1 ⟨rfl, hb1⟩
    replace hBel : Hid (Below w.heap.size w w1) := hBel.out.trans (hb1.mono hBel.out.size)
    replace hsg : Hid (Signs w1) := Signs.below hsg.out hb1 hsg.out.lt
    replace hCd : Hid (CodeAt w1 a n) := hCd.out.below hb1
    replace htU : Hid (TreeAt w1 0 5 (.string ut) (.slice ua ul uc) d) := htU.out.below hb1
    replace bxBU : Hid (Box w1 BU [.string ut, .slice ua ul uc] 36) := bxBU.out.below hb1 bxBU.out.lt
    replace htN : Hid (MarkAt 31 w1 0 [.string nt, .string nx, .slice pa pl pc, .slice qa ql qc] u) := MarkAt.below htN.out hb1
    replace bxBN : Hid (Box w1 BN [.string nt, .string nx, .slice pa pl pc, .slice qa ql qc] 27) := bxBN.out.below hb1 bxBN.out.lt
    replace htV : Hid (TreeAt w1 0 31 (.string (strT vd)) (.slice va vl vc) vd) := htV.out.below hb1
    replace bxBV : Hid (Box w1 BV [.string (strT vd), .slice va vl vc] 36) := bxBV.out.below hb1 bxBV.out.lt
    refine hK.out _ _ ⟨cell_on hb1 hHeld.1, cell_on hb1 hHeld.2.1, cell_on hb1 hHeld.2.2.1, cell_on hb1 hHeld.2.2.2.1, cell_on hb1 hHeld.2.2.2.2.1, cell_on hb1 hHeld.2.2.2.2.2.1, cell_on hb1 hHeld.2.2.2.2.2.2.1, cell_on hb1 hHeld.2.2.2.2.2.2.2⟩ (fun hHeld => ?_)
    clear hK K
    refine tq (i := 9) (d := 77) ?_
    simp only [sz, ss]
    refine tq (i := 10) (d := 78) ?_
    simp only [sz, ss]
    refine tq (i := 11) (d := 79) ?_
    simp only [sz, ss]
    refine tq (i := 12) (d := 80) ?_
    simp only [sz, ss]
    refine tq (i := 14) (d := 82) ?_
    simp only [sz, ss]
    refine wpAnyH_ready (rs := [13]) (by kernel_rfl) (by simp) ?_
    refine AllReadyH.cons rfl (fun K hK => ?_) AllReadyH.nil
    go_simp
    refine (implMarkText_any (by exact htN.out) (by exact hsg.out)).mono ?_
    rintro e w1 ⟨rfl, hb1⟩
    replace hBel : Hid (Below w.heap.size w w1) := hBel.out.trans (hb1.mono hBel.out.size)
    replace hsg : Hid (Signs w1) := Signs.below hsg.out hb1 hsg.out.lt
    replace hCd : Hid (CodeAt w1 a n) := hCd.out.below hb1
    replace htU : Hid (TreeAt w1 0 5 (.string ut) (.slice ua ul uc) d) := htU.out.below hb1
    replace bxBU : Hid (Box w1 BU [.string ut, .slice ua ul uc] 36) := bxBU.out.below hb1 bxBU.out.lt
    replace htN : Hid (MarkAt 31 w1 0 [.string nt, .string nx, .slice pa pl pc, .slice qa ql qc] u) := MarkAt.below htN.out hb1
    replace bxBN : Hid (Box w1 BN [.string nt, .string nx, .slice pa pl pc, .slice qa ql qc] 27) := bxBN.out.below hb1 bxBN.out.lt
    replace htV : Hid (TreeAt w1 0 31 (.string (strT vd)) (.slice va vl vc) vd) := htV.out.below hb1
    replace bxBV : Hid (Box w1 BV [.string (strT vd), .slice va vl vc] 36) := bxBV.out.below hb1 bxBV.out.lt
    rw [hMT.out]
    refine hK.out _ _ ⟨cell_on hb1 hHeld.1, cell_on hb1 hHeld.2.1, cell_on hb1 hHeld.2.2.1, cell_on hb1 hHeld.2.2.2.1, cell_on hb1 hHeld.2.2.2.2.1, cell_on hb1 hHeld.2.2.2.2.2.1, cell_on hb1 hHeld.2.2.2.2.2.2.1, cell_on hb1 hHeld.2.2.2.2.2.2.2⟩ (fun hHeld => ?_)
    clear hK K
    refine wpAnyH_ready (rs := [15]) (by kernel_rfl) (by simp) ?_
    refine AllReadyH.cons rfl (fun K hK => ?_) AllReadyH.nil
    go_simp
    refine (implTreeText_any (by exact htU.out)).mono ?_
    rintro e w1 ⟨rfl, hb1⟩
    replace hBel : Hid (Below w.heap.size w w1) := hBel.out.trans (hb1.mono hBel.out.size)
    replace hsg : Hid (Signs w1) := Signs.below hsg.out hb1 hsg.out.lt
    replace hCd : Hid (CodeAt w1 a n) := hCd.out.below hb1
    replace htU : Hid (TreeAt w1 0 5 (.string ut) (.slice ua ul uc) d) := htU.out.below hb1
    replace bxBU : Hid (Box w1 BU [.string ut, .slice ua ul uc] 36) := bxBU.out.below hb1 bxBU.out.lt
    replace htN : Hid (MarkAt 31 w1 0 [.string nt, .string nx, .slice pa pl pc, .slice qa ql qc] u) := MarkAt.below htN.out hb1
    replace bxBN : Hid (Box w1 BN [.string nt, .string nx, .slice pa pl pc, .slice qa ql qc] 27) := bxBN.out.below hb1 bxBN.out.lt
    replace htV : Hid (TreeAt w1 0 31 (.string (strT vd)) (.slice va vl vc) vd) := htV.out.below hb1
    replace bxBV : Hid (Box w1 BV [.string (strT vd), .slice va vl vc] 36) := bxBV.out.below hb1 bxBV.out.lt
    refine hK.out _ _ ⟨cell_on hb1 hHeld.1, cell_on hb1 hHeld.2.1, cell_on hb1 hHeld.2.2.1, cell_on hb1 hHeld.2.2.2.1, cell_on hb1 hHeld.2.2.2.2.1, cell_on hb1 hHeld.2.2.2.2.2.1, cell_on hb1 hHeld.2.2.2.2.2.2.1, cell_on hb1 hHeld.2.2.2.2.2.2.2⟩ (fun hHeld => ?_)
    clear hK K
    refine tq (i := 16) (d := 84) ?_
    simp only [sz, ss]
    refine tq (i := 17) (d := 85) ?_
    simp only [sz, ss]
    refine tq (i := 18) (d := 2) ?_
    simp only [sz, ss]
    refine wpAnyH_done (by kernel_rfl) ?_ _
    go_wp2_with fail
    go_ret
    exact ⟨rfl, hBel.out⟩
  · clear hYS'
    replace hR4 : Hid (okB (szD 4 td 30) = true ∧ strT td = x.vTag) := hR4.out rfl
    obtain rfl : mt = strT td := by rw [hmt.out, hR4.out.2]
    go_wp2_with fail
    generalize (w5.alloc (.cells #[.string (strT td), .slice wa wl wc] 36)) = w9 at *
    generalize w5.heap.size = BW at *
    replace hBel : Hid (Below w.heap.size w w9.drew) := hBel.out.drew
    replace hsg : Hid (Signs w9.drew) := hsg.out
    replace hCd : Hid (CodeAt w9.drew a n) := hCd.out.below (Below.drew (Below.refl _ _))
    replace htM : Hid (MarkAt 4 w9.drew 0 [.string (strT td), .string mx, .slice ma ml mc, .slice na nl nc] x) := MarkAt.below htM.out (Below.drew (Below.refl _ _))
    replace bxBM : Hid (Box w9.drew BM [.string (strT td), .string mx, .slice ma ml mc, .slice na nl nc] 27) := bxBM.out
    replace htT : Hid (TreeAt w9.drew 0 4 (.string (strT td)) (.slice ta tl tc) td) := htT.out.below (Below.drew (Below.refl _ _))
    replace bxBT : Hid (Box w9.drew BT [.string (strT td), .slice ta tl tc] 36) := bxBT.out
    replace htW : Hid (TreeAt w9.drew 0 4 (.string (strT td)) (.slice wa wl wc) td) := htW.out.below (Below.drew (Below.refl _ _))
    replace bxBW : Hid (Box w9.drew BW [.string (strT td), .slice wa wl wc] 36) := bxBW.out
    refine wp_region_held_drew (S := fun w' => w'.cell? ⟨BT, 0, none⟩ = some (.string (strT td)) ∧ w'.cell? ⟨BT, 1, none⟩ = some (.slice ta tl tc) ∧ w'.cell? ⟨BW, 0, none⟩ = some (.string (strT td)) ∧ w'.cell? ⟨BW, 1, none⟩ = some (.slice wa wl wc) ∧ w'.cell? ⟨BM, 0, none⟩ = some (.string (strT td))) (by kernel_rfl) ⟨bxBT.out.cell 0 rfl, bxBT.out.cell 1 rfl, bxBW.out.cell 0 rfl, bxBW.out.cell 1 rfl, bxBM.out.cell 0 rfl⟩ (fun hHeld => ?_)
    refine tq (i := 0) (d := 27) ?_
    simp only [sz, ss]
    refine tq (i := 1) (d := 28) ?_
    simp only [sz, ss]
    refine tq (i := 2) (d := 29) ?_
    simp only [sz, ss]
    refine tq (i := 3) (d := 30) ?_
    simp only [sz, ss]
    refine tq (i := 4) (d := 31) ?_
    simp only [sz, ss]
    refine tq (i := 6) (d := 33) ?_
    simp only [sz, ss]
    refine wpAnyH_ready (rs := [5]) (by kernel_rfl) (by simp) ?_
    refine AllReadyH.cons rfl (fun K hK => ?_) AllReadyH.nil
    go_simp
    refine (implTreeText_any (by exact htT.out)).mono ?_
    rintro e w1 ⟨rfl, hb1⟩
    replace hBel : Hid (Below w.heap.size w w1) := hBel.out.trans (hb1.mono hBel.out.size)
    replace hsg : Hid (Signs w1) := Signs.below hsg.out hb1 hsg.out.lt
    replace hCd : Hid (CodeAt w1 a n) := hCd.out.below hb1
    replace htM : Hid (MarkAt 4 w1 0 [.string (strT td), .string mx, .slice ma ml mc, .slice na nl nc] x) := MarkAt.below htM.out hb1
    replace bxBM : Hid (Box w1 BM [.string (strT td), .string mx, .slice ma ml mc, .slice na nl nc] 27) := bxBM.out.below hb1 bxBM.out.lt
    replace htT : Hid (TreeAt w1 0 4 (.string (strT td)) (.slice ta tl tc) td) := htT.out.below hb1
    replace bxBT : Hid (Box w1 BT [.string (strT td), .slice ta tl tc] 36) := bxBT.out.below hb1 bxBT.out.lt
    replace htW : Hid (TreeAt w1 0 4 (.string (strT td)) (.slice wa wl wc) td) := htW.out.below hb1
    replace bxBW : Hid (Box w1 BW [.string (strT td), .slice wa wl wc] 36) := bxBW.out.below hb1 bxBW.out.lt
    refine hK.out _ _ ⟨cell_on hb1 hHeld.1, cell_on hb1 hHeld.2.1, cell_on hb1 hHeld.2.2.1, cell_on hb1 hHeld.2.2.2.1, cell_on hb1 hHeld.2.2.2.2⟩ (fun hHeld => ?_)
    clear hK K
    refine wpAnyH_ready (rs := [7]) (by kernel_rfl) (by simp) ?_
    refine AllReadyH.cons rfl (fun K hK => ?_) AllReadyH.nil
    go_simp
    refine (implTreeText_any (by exact htW.out)).mono ?_
    rintro e w1 ⟨rfl, hb1⟩
    replace hBel : Hid (Below w.heap.size w w1) := hBel.out.trans (hb1.mono hBel.out.size)
    replace hsg : Hid (Signs w1) := Signs.below hsg.out hb1 hsg.out.lt
    replace hCd : Hid (CodeAt w1 a n) := hCd.out.below hb1
    replace htM : Hid (MarkAt 4 w1 0 [.string (strT td), .string mx, .slice ma ml mc, .slice na nl nc] x) := MarkAt.below htM.out hb1
    replace bxBM : Hid (Box w1 BM [.string (strT td), .string mx, .slice ma ml mc, .slice na nl nc] 27) := bxBM.out.below hb1 bxBM.out.lt
    replace htT : Hid (TreeAt w1 0 4 (.string (strT td)) (.slice ta tl tc) td) := htT.out.below hb1
    replace bxBT : Hid (Box w1 BT [.string (strT td), .slice ta tl tc] 36) := bxBT.out.below hb1 bxBT.out.lt
    replace htW : Hid (TreeAt w1 0 4 (.string (strT td)) (.slice wa wl wc) td) := htW.out.below hb1
    replace bxBW : Hid (Box w1 BW [.string (strT td), .slice wa wl wc] 36) := bxBW.out.below hb1 bxBW.out.lt
    refine hK.out _ _ ⟨cell_on hb1 hHeld.1, cell_on hb1 hHeld.2.1, cell_on hb1 hHeld.2.2.1, cell_on hb1 hHeld.2.2.2.1, cell_on hb1 hHeld.2.2.2.2⟩ (fun hHeld => ?_)
    clear hK K
    refine tq (i := 8) (d := 35) ?_
    simp only [sz, ss]
    refine tq (i := 9) (d := 36) ?_
    simp only [sz, ss]
    refine tq (i := 10) (d := 37) ?_
    simp only [sz, ss]
    refine tq (i := 11) (d := 38) ?_
    simp only [sz, ss]
    refine tq (i := 12) (d := 39) ?_
    simp only [sz, ss]
    refine tq (i := 13) (d := 40) ?_
    simp only [sz, ss]
    refine wpAnyH_ready (rs := [14]) (by kernel_rfl) (by simp) ?_
    refine AllReadyH.cons rfl (fun K hK => ?_) AllReadyH.nil
    go_simp
    refine (implTreeOk_any (by exact htT.out)).mono ?_
    rintro e w1 ⟨rfl, hb1⟩
    replace hBel : Hid (Below w.heap.size w w1) := hBel.out.trans (hb1.mono hBel.out.size)
    replace hsg : Hid (Signs w1) := Signs.below hsg.out hb1 hsg.out.lt
    replace hCd : Hid (CodeAt w1 a n) := hCd.out.below hb1
    replace htM : Hid (MarkAt 4 w1 0 [.string (strT td), .string mx, .slice ma ml mc, .slice na nl nc] x) := MarkAt.below htM.out hb1
    replace bxBM : Hid (Box w1 BM [.string (strT td), .string mx, .slice ma ml mc, .slice na nl nc] 27) := bxBM.out.below hb1 bxBM.out.lt
    replace htT : Hid (TreeAt w1 0 4 (.string (strT td)) (.slice ta tl tc) td) := htT.out.below hb1
    replace bxBT : Hid (Box w1 BT [.string (strT td), .slice ta tl tc] 36) := bxBT.out.below hb1 bxBT.out.lt
    replace htW : Hid (TreeAt w1 0 4 (.string (strT td)) (.slice wa wl wc) td) := htW.out.below hb1
    replace bxBW : Hid (Box w1 BW [.string (strT td), .slice wa wl wc] 36) := bxBW.out.below hb1 bxBW.out.lt
    rw [hR4.out.1]
    refine hK.out _ _ ⟨cell_on hb1 hHeld.1, cell_on hb1 hHeld.2.1, cell_on hb1 hHeld.2.2.1, cell_on hb1 hHeld.2.2.2.1, cell_on hb1 hHeld.2.2.2.2⟩ (fun hHeld => ?_)
    clear hK K
    refine tq (i := 15) (d := 42) ?_
    simp only [sz, ss]
    refine tq (i := 16) (d := 43) ?_
    simp only [sz, ss]
    refine tq (i := 17) (d := 44) ?_
    simp only [sz, ss]
    refine tq (i := 18) (d := 45) ?_
    simp only [sz, ss]
    refine tq (i := 19) (d := 46) ?_
    simp only [sz, ss]
    refine tq (i := 20) (d := 47) ?_
    simp only [sz, ss]
    refine tq (i := 21) (d := 48) ?_
    simp only [sz, ss]
    refine tq (i := 22) (d := 49) ?_
    simp only [sz, ss]
    refine tq (i := 23) (d := 50) ?_
    simp only [sz, ss]
    refine tq (i := 24) (d := 51) ?_
    simp only [sz, ss]
    refine wpAnyH_done (by kernel_rfl) ?_ _
    clear htM htT htW bxBM bxBT bxBW
    go_wp2_with fail
    refine (drawTreeText_any hCd.out).mono ?_
    rintro e w6 ⟨⟨vt0, vk0, d, rfl, ht6⟩, hb6⟩
    replace hBel : Hid (Below w.heap.size w w6) := hBel.out.trans (hb6.mono hBel.out.size)
    replace hsg : Hid (Signs w6) := Signs.below hsg.out hb6 hsg.out.lt
    replace hCd : Hid (CodeAt w6 a n) := hCd.out.below hb6
    obtain ⟨⟨ut, rfl⟩, ua, uc, rfl⟩ := ht6.form
    generalize hul : (kidsOf d).length = ul at ht6 ⊢
    clear hul hb6
    have htU : Hid (TreeAt w6 0 5 (.string ut) (.slice ua ul uc) d) := ht6
    clear ht6
    have hbA : Below w6.heap.size w6 (w6.alloc (.cells #[.string ut, .slice ua ul uc] 36)) := (Below.refl _ _).alloc (Nat.le_refl _) _
    replace hBel : Hid (Below w.heap.size w (w6.alloc (.cells #[.string ut, .slice ua ul uc] 36))) := hBel.out.trans (hbA.mono hBel.out.size)
    replace hsg : Hid (Signs (w6.alloc (.cells #[.string ut, .slice ua ul uc] 36))) := Signs.below hsg.out hbA hsg.out.lt
    replace hCd : Hid (CodeAt (w6.alloc (.cells #[.string ut, .slice ua ul uc] 36)) a n) := hCd.out.below hbA
    replace htU : Hid (TreeAt (w6.alloc (.cells #[.string ut, .slice ua ul uc] 36)) 0 5 (.string ut) (.slice ua ul uc) d) := htU.out.below hbA
    have bxBU : Hid (Box (w6.alloc (.cells #[.string ut, .slice ua ul uc] 36)) w6.heap.size [.string ut, .slice ua ul uc] 36) := Box.new w6 _ _
    clear hbA
    go_wp2_with fail
    generalize (w6.alloc (.cells #[.string ut, .slice ua ul uc] 36)) = w7 at *
    generalize w6.heap.size = BU at *
    refine (specTreeOk_any htU.out).mono ?_
    rintro e w8 ⟨rfl, hb8⟩
    replace hBel : Hid (Below w.heap.size w w8) := hBel.out.trans (hb8.mono hBel.out.size)
    replace hsg : Hid (Signs w8) := Signs.below hsg.out hb8 hsg.out.lt
    replace hCd : Hid (CodeAt w8 a n) := hCd.out.below hb8
    replace htU : Hid (TreeAt w8 0 5 (.string ut) (.slice ua ul uc) d) := htU.out.below hb8
    replace bxBU : Hid (Box w8 BU [.string ut, .slice ua ul uc] 36) := bxBU.out.below hb8 bxBU.out.lt
    clear hb8
    cases hok : okB (szD 5 d 30)
    · go_wp2_with fail
      go_ret
      exact ⟨rfl, hBel.out⟩
    have hok' : Hid (okB (szD 5 d 30) = true) := hok
    clear hok
    have u0 := bxBU.out.cell 0 rfl
    have u1 := bxBU.out.cell 1 rfl
    go_wp2_with fail
    clear u0 u1
    refine (implTreeText_any htU.out).mono ?_
    rintro e w10 ⟨rfl, hb10⟩
    replace hBel : Hid (Below w.heap.size w w10) := hBel.out.trans (hb10.mono hBel.out.size)
    replace hsg : Hid (Signs w10) := Signs.below hsg.out hb10 hsg.out.lt
    replace hCd : Hid (CodeAt w10 a n) := hCd.out.below hb10
    replace htU : Hid (TreeAt w10 0 5 (.string ut) (.slice ua ul uc) d) := htU.out.below hb10
    replace bxBU : Hid (Box w10 BU [.string ut, .slice ua ul uc] 36) := bxBU.out.below hb10 bxBU.out.lt
    clear hb10
    go_wp2_with fail
    refine (implReadMark_any (s := textR 5 d) (Nat.le_trans textR_few (by omega)) hsg.out).mono ?_
    rintro e w11 ⟨csN, u, fN, bu, rfl, ownN, _, _, hRU0, hb11⟩
    replace hBel : Hid (Below w.heap.size w w11) := hBel.out.trans (hb11.mono hBel.out.size)
    replace hsg : Hid (Signs w11) := Signs.below hsg.out hb11 hsg.out.lt
    replace hCd : Hid (CodeAt w11 a n) := hCd.out.below hb11
    replace htU : Hid (TreeAt w11 0 5 (.string ut) (.slice ua ul uc) d) := htU.out.below hb11
    replace bxBU : Hid (Box w11 BU [.string ut, .slice ua ul uc] 36) := bxBU.out.below hb11 bxBU.out.lt
    clear hb11
    obtain ⟨rfl, e2, e3, e4⟩ := readsM_tree (by omega) hok'.out hRU0
    have hMT : Hid (mtR 31 u = textR 5 d) := e2
    have haN := MarkOwn_at (lo := 0) _ _ _ _ _ ownN (fun _ _ => Nat.zero_le _)
    obtain ⟨nt, nx, pa, pl, pc, qa, ql, qc, rfl⟩ : ∃ (t1 t2 : ByteArray) (a1 : Option Addr) (n1 c1 : Nat) (a2 : Option Addr) (n2 c2 : Nat), csN = [.string t1, .string t2, .slice a1 n1 c1, .slice a2 n2 c2] := markB_form haN
    have htN : Hid (MarkAt 31 w11 0 [.string nt, .string nx, .slice pa pl pc, .slice qa ql qc] u) := haN
    clear haN ownN e2 hRU0
    have hbA : Below w11.heap.size w11 (w11.alloc (.cells #[.string nt, .string nx, .slice pa pl pc, .slice qa ql qc] 27)) := (Below.refl _ _).alloc (Nat.le_refl _) _
    replace hBel : Hid (Below w.heap.size w (w11.alloc (.cells #[.string nt, .string nx, .slice pa pl pc, .slice qa ql qc] 27))) := hBel.out.trans (hbA.mono hBel.out.size)
    replace hsg : Hid (Signs (w11.alloc (.cells #[.string nt, .string nx, .slice pa pl pc, .slice qa ql qc] 27))) := Signs.below hsg.out hbA hsg.out.lt
    replace hCd : Hid (CodeAt (w11.alloc (.cells #[.string nt, .string nx, .slice pa pl pc, .slice qa ql qc] 27)) a n) := hCd.out.below hbA
    replace htU : Hid (TreeAt (w11.alloc (.cells #[.string nt, .string nx, .slice pa pl pc, .slice qa ql qc] 27)) 0 5 (.string ut) (.slice ua ul uc) d) := htU.out.below hbA
    replace bxBU : Hid (Box (w11.alloc (.cells #[.string nt, .string nx, .slice pa pl pc, .slice qa ql qc] 27)) BU [.string ut, .slice ua ul uc] 36) := bxBU.out.below hbA bxBU.out.lt
    replace htN : Hid (MarkAt 31 (w11.alloc (.cells #[.string nt, .string nx, .slice pa pl pc, .slice qa ql qc] 27)) 0 [.string nt, .string nx, .slice pa pl pc, .slice qa ql qc] u) := MarkAt.below htN.out hbA
    have bxBN : Hid (Box (w11.alloc (.cells #[.string nt, .string nx, .slice pa pl pc, .slice qa ql qc] 27)) w11.heap.size [.string nt, .string nx, .slice pa pl pc, .slice qa ql qc] 27) := Box.new w11 _ _
    clear hbA
    go_wp2_with fail
    generalize (w11.alloc (.cells #[.string nt, .string nx, .slice pa pl pc, .slice qa ql qc] 27)) = w12 at *
    generalize w11.heap.size = BN at *
    refine (implBare_any htN.out).mono ?_
    rintro e w13 ⟨⟨csV, fV, rfl, ownV, _, _⟩, hb13⟩
    replace hBel : Hid (Below w.heap.size w w13) := hBel.out.trans (hb13.mono hBel.out.size)
    replace hsg : Hid (Signs w13) := Signs.below hsg.out hb13 hsg.out.lt
    replace hCd : Hid (CodeAt w13 a n) := hCd.out.below hb13
    replace htU : Hid (TreeAt w13 0 5 (.string ut) (.slice ua ul uc) d) := htU.out.below hb13
    replace bxBU : Hid (Box w13 BU [.string ut, .slice ua ul uc] 36) := bxBU.out.below hb13 bxBU.out.lt
    replace htN : Hid (MarkAt 31 w13 0 [.string nt, .string nx, .slice pa pl pc, .slice qa ql qc] u) := MarkAt.below htN.out hb13
    replace bxBN : Hid (Box w13 BN [.string nt, .string nx, .slice pa pl pc, .slice qa ql qc] 27) := bxBN.out.below hb13 bxBN.out.lt
    clear hb13
    generalize hYV : bareR 31 u = rv at ownV e3 e4 ⊢
    obtain ⟨vd, bv⟩ := rv
    dsimp only at ownV e3 e4 ⊢
    subst e3
    have hTV : Hid (textR 31 vd = textR 5 d) := e4
    have haV := TreeO_at (lo := 0) _ _ _ _ _ ownV (fun _ _ => Nat.zero_le _)
    obtain ⟨va, vl, vc, rfl⟩ : ∃ (va : Option Addr) (vl vc : Nat), csV = [.string (strT vd), .slice va vl vc] := by obtain ⟨k, e, h3, _⟩ := ownV.opened; obtain ⟨y1, y2, y3⟩ := h3.form; exact ⟨y1, _, y2, by rw [e, y3]⟩
    have htV : Hid (TreeAt w13 0 31 (.string (strT vd)) (.slice va vl vc) vd) := TreeL.at _ _ _ _ haV
    clear haV ownV e4 hYV
    have hbA : Below w13.heap.size w13 (w13.alloc (.cells #[.string (strT vd), .slice va vl vc] 36)) := (Below.refl _ _).alloc (Nat.le_refl _) _
    replace hBel : Hid (Below w.heap.size w (w13.alloc (.cells #[.string (strT vd), .slice va vl vc] 36))) := hBel.out.trans (hbA.mono hBel.out.size)
    replace hsg : Hid (Signs (w13.alloc (.cells #[.string (strT vd), .slice va vl vc] 36))) := Signs.below hsg.out hbA hsg.out.lt
    replace hCd : Hid (CodeAt (w13.alloc (.cells #[.string (strT vd), .slice va vl vc] 36)) a n) := hCd.out.below hbA
    replace htU : Hid (TreeAt (w13.alloc (.cells #[.string (strT vd), .slice va vl vc] 36)) 0 5 (.string ut) (.slice ua ul uc) d) := htU.out.below hbA
    replace bxBU : Hid (Box (w13.alloc (.cells #[.string (strT vd), .slice va vl vc] 36)) BU [.string ut, .slice ua ul uc] 36) := bxBU.out.below hbA bxBU.out.lt
    replace htN : Hid (MarkAt 31 (w13.alloc (.cells #[.string (strT vd), .slice va vl vc] 36)) 0 [.string nt, .string nx, .slice pa pl pc, .slice qa ql qc] u) := MarkAt.below htN.out hbA
    replace bxBN : Hid (Box (w13.alloc (.cells #[.string (strT vd), .slice va vl vc] 36)) BN [.string nt, .string nx, .slice pa pl pc, .slice qa ql qc] 27) := bxBN.out.below hbA bxBN.out.lt
    replace htV : Hid (TreeAt (w13.alloc (.cells #[.string (strT vd), .slice va vl vc] 36)) 0 31 (.string (strT vd)) (.slice va vl vc) vd) := htV.out.below hbA
    have bxBV : Hid (Box (w13.alloc (.cells #[.string (strT vd), .slice va vl vc] 36)) w13.heap.size [.string (strT vd), .slice va vl vc] 36) := Box.new w13 _ _
    clear hbA
    go_wp2_with fail
    generalize (w13.alloc (.cells #[.string (strT vd), .slice va vl vc] 36)) = w14 at *
    generalize w13.heap.size = BV at *
    replace hBel : Hid (Below w.heap.size w w14.drew) := hBel.out.drew
    replace hsg : Hid (Signs w14.drew) := hsg.out
    replace hCd : Hid (CodeAt w14.drew a n) := hCd.out.below (Below.drew (Below.refl _ _))
    replace htU : Hid (TreeAt w14.drew 0 5 (.string ut) (.slice ua ul uc) d) := htU.out.below (Below.drew (Below.refl _ _))
    replace bxBU : Hid (Box w14.drew BU [.string ut, .slice ua ul uc] 36) := bxBU.out
    replace htN : Hid (MarkAt 31 w14.drew 0 [.string nt, .string nx, .slice pa pl pc, .slice qa ql qc] u) := MarkAt.below htN.out (Below.drew (Below.refl _ _))
    replace bxBN : Hid (Box w14.drew BN [.string nt, .string nx, .slice pa pl pc, .slice qa ql qc] 27) := bxBN.out
    replace htV : Hid (TreeAt w14.drew 0 31 (.string (strT vd)) (.slice va vl vc) vd) := htV.out.below (Below.drew (Below.refl _ _))
    replace bxBV : Hid (Box w14.drew BV [.string (strT vd), .slice va vl vc] 36) := bxBV.out
    refine wp_region_held_drew (S := fun w' => w'.cell? ⟨BV, 0, none⟩ = some (.string (strT vd)) ∧ w'.cell? ⟨BV, 1, none⟩ = some (.slice va vl vc) ∧ w'.cell? ⟨BU, 0, none⟩ = some (.string ut) ∧ w'.cell? ⟨BU, 1, none⟩ = some (.slice ua ul uc) ∧ w'.cell? ⟨BN, 0, none⟩ = some (.string nt) ∧ w'.cell? ⟨BN, 1, none⟩ = some (.string nx) ∧ w'.cell? ⟨BN, 2, none⟩ = some (.slice pa pl pc) ∧ w'.cell? ⟨BN, 3, none⟩ = some (.slice qa ql qc)) (by kernel_rfl) ⟨bxBV.out.cell 0 rfl, bxBV.out.cell 1 rfl, bxBU.out.cell 0 rfl, bxBU.out.cell 1 rfl, bxBN.out.cell 0 rfl, bxBN.out.cell 1 rfl, bxBN.out.cell 2 rfl, bxBN.out.cell 3 rfl⟩ (fun hHeld => ?_)
    refine tq (i := 0) (d := 68) ?_
    simp only [sz, ss]
    refine tq (i := 1) (d := 69) ?_
    simp only [sz, ss]
    refine tq (i := 2) (d := 70) ?_
    simp only [sz, ss]
    refine tq (i := 3) (d := 71) ?_
    simp only [sz, ss]
    refine tq (i := 4) (d := 72) ?_
    simp only [sz, ss]
    refine tq (i := 5) (d := 73) ?_
    simp only [sz, ss]
    refine tq (i := 7) (d := 75) ?_
    simp only [sz, ss]
    refine wpAnyH_ready (rs := [6]) (by kernel_rfl) (by simp) ?_
    refine AllReadyH.cons rfl (fun K hK => ?_) AllReadyH.nil
    go_simp
    refine (implTreeText_any (by exact htV.out)).mono ?_
    rintro e w1 ⟨rfl, hb1⟩
    replace hBel : Hid (Below w.heap.size w w1) := hBel.out.trans (hb1.mono hBel.out.size)
    replace hsg : Hid (Signs w1) := Signs.below hsg.out hb1 hsg.out.lt
    replace hCd : Hid (CodeAt w1 a n) := hCd.out.below hb1
    replace htU : Hid (TreeAt w1 0 5 (.string ut) (.slice ua ul uc) d) := htU.out.below hb1
    replace bxBU : Hid (Box w1 BU [.string ut, .slice ua ul uc] 36) := bxBU.out.below hb1 bxBU.out.lt
    replace htN : Hid (MarkAt 31 w1 0 [.string nt, .string nx, .slice pa pl pc, .slice qa ql qc] u) := MarkAt.below htN.out hb1
    replace bxBN : Hid (Box w1 BN [.string nt, .string nx, .slice pa pl pc, .slice qa ql qc] 27) := bxBN.out.below hb1 bxBN.out.lt
    replace htV : Hid (TreeAt w1 0 31 (.string (strT vd)) (.slice va vl vc) vd) := htV.out.below hb1
    replace bxBV : Hid (Box w1 BV [.string (strT vd), .slice va vl vc] 36) := bxBV.out.below hb1 bxBV.out.lt
    rw [hTV.out]
    refine hK.out _ _ ⟨cell_on hb1 hHeld.1, cell_on hb1 hHeld.2.1, cell_on hb1 hHeld.2.2.1, cell_on hb1 hHeld.2.2.2.1, cell_on hb1 hHeld.2.2.2.2.1, cell_on hb1 hHeld.2.2.2.2.2.1, cell_on hb1 hHeld.2.2.2.2.2.2.1, cell_on hb1 hHeld.2.2.2.2.2.2.2⟩ (fun hHeld => ?_)
    clear hK K
    refine wpAnyH_ready (rs := [8]) (by kernel_rfl) (by simp) ?_
    refine AllReadyH.cons rfl (fun K hK => ?_) AllReadyH.nil
    go_simp
    refine (implTreeText_any (by exact htU.out)).mono ?_
    rintro e w1 ⟨rfl, hb1⟩
    replace hBel : Hid (Below w.heap.size w w1) := hBel.out.trans (hb1.mono hBel.out.size)
    replace hsg : Hid (Signs w1) := Signs.below hsg.out hb1 hsg.out.lt
    replace hCd : Hid (CodeAt w1 a n) := hCd.out.below hb1
    replace htU : Hid (TreeAt w1 0 5 (.string ut) (.slice ua ul uc) d) := htU.out.below hb1
    replace bxBU : Hid (Box w1 BU [.string ut, .slice ua ul uc] 36) := bxBU.out.below hb1 bxBU.out.lt
    replace htN : Hid (MarkAt 31 w1 0 [.string nt, .string nx, .slice pa pl pc, .slice qa ql qc] u) := MarkAt.below htN.out hb1
    replace bxBN : Hid (Box w1 BN [.string nt, .string nx, .slice pa pl pc, .slice qa ql qc] 27) := bxBN.out.below hb1 bxBN.out.lt
    replace htV : Hid (TreeAt w1 0 31 (.string (strT vd)) (.slice va vl vc) vd) := htV.out.below hb1
    replace bxBV : Hid (Box w1 BV [.string (strT vd), .slice va vl vc] 36) := bxBV.out.below hb1 bxBV.out.lt
    refine hK.out _ _ ⟨cell_on hb1 hHeld.1, cell_on hb1 hHeld.2.1, cell_on hb1 hHeld.2.2.1, cell_on hb1 hHeld.2.2.2.1, cell_on hb1 hHeld.2.2.2.2.1, cell_on hb1 hHeld.2.2.2.2.2.1, cell_on hb1 hHeld.2.2.2.2.2.2.1, cell_on hb1 hHeld.2.2.2.2.2.2.2⟩ (fun hHeld => ?_)
    clear hK K
    refine tq (i := 9) (d := 77) ?_
    simp only [sz, ss]
    refine tq (i := 10) (d := 78) ?_
    simp only [sz, ss]
    refine tq (i := 11) (d := 79) ?_
    simp only [sz, ss]
    refine tq (i := 12) (d := 80) ?_
    simp only [sz, ss]
    refine tq (i := 14) (d := 82) ?_
    simp only [sz, ss]
    refine wpAnyH_ready (rs := [13]) (by kernel_rfl) (by simp) ?_
    refine AllReadyH.cons rfl (fun K hK => ?_) AllReadyH.nil
    go_simp
    refine (implMarkText_any (by exact htN.out) (by exact hsg.out)).mono ?_
    rintro e w1 ⟨rfl, hb1⟩
    replace hBel : Hid (Below w.heap.size w w1) := hBel.out.trans (hb1.mono hBel.out.size)
    replace hsg : Hid (Signs w1) := Signs.below hsg.out hb1 hsg.out.lt
    replace hCd : Hid (CodeAt w1 a n) := hCd.out.below hb1
    replace htU : Hid (TreeAt w1 0 5 (.string ut) (.slice ua ul uc) d) := htU.out.below hb1
    replace bxBU : Hid (Box w1 BU [.string ut, .slice ua ul uc] 36) := bxBU.out.below hb1 bxBU.out.lt
    replace htN : Hid (MarkAt 31 w1 0 [.string nt, .string nx, .slice pa pl pc, .slice qa ql qc] u) := MarkAt.below htN.out hb1
    replace bxBN : Hid (Box w1 BN [.string nt, .string nx, .slice pa pl pc, .slice qa ql qc] 27) := bxBN.out.below hb1 bxBN.out.lt
    replace htV : Hid (TreeAt w1 0 31 (.string (strT vd)) (.slice va vl vc) vd) := htV.out.below hb1
    replace bxBV : Hid (Box w1 BV [.string (strT vd), .slice va vl vc] 36) := bxBV.out.below hb1 bxBV.out.lt
    rw [hMT.out]
    refine hK.out _ _ ⟨cell_on hb1 hHeld.1, cell_on hb1 hHeld.2.1, cell_on hb1 hHeld.2.2.1, cell_on hb1 hHeld.2.2.2.1, cell_on hb1 hHeld.2.2.2.2.1, cell_on hb1 hHeld.2.2.2.2.2.1, cell_on hb1 hHeld.2.2.2.2.2.2.1, cell_on hb1 hHeld.2.2.2.2.2.2.2⟩ (fun hHeld => ?_)
    clear hK K
    refine wpAnyH_ready (rs := [15]) (by kernel_rfl) (by simp) ?_
    refine AllReadyH.cons rfl (fun K hK => ?_) AllReadyH.nil
    go_simp
    refine (implTreeText_any (by exact htU.out)).mono ?_
    rintro e w1 ⟨rfl, hb1⟩
    replace hBel : Hid (Below w.heap.size w w1) := hBel.out.trans (hb1.mono hBel.out.size)
    replace hsg : Hid (Signs w1) := Signs.below hsg.out hb1 hsg.out.lt
    replace hCd : Hid (CodeAt w1 a n) := hCd.out.below hb1
    replace htU : Hid (TreeAt w1 0 5 (.string ut) (.slice ua ul uc) d) := htU.out.below hb1
    replace bxBU : Hid (Box w1 BU [.string ut, .slice ua ul uc] 36) := bxBU.out.below hb1 bxBU.out.lt
    replace htN : Hid (MarkAt 31 w1 0 [.string nt, .string nx, .slice pa pl pc, .slice qa ql qc] u) := MarkAt.below htN.out hb1
    replace bxBN : Hid (Box w1 BN [.string nt, .string nx, .slice pa pl pc, .slice qa ql qc] 27) := bxBN.out.below hb1 bxBN.out.lt
    replace htV : Hid (TreeAt w1 0 31 (.string (strT vd)) (.slice va vl vc) vd) := htV.out.below hb1
    replace bxBV : Hid (Box w1 BV [.string (strT vd), .slice va vl vc] 36) := bxBV.out.below hb1 bxBV.out.lt
    refine hK.out _ _ ⟨cell_on hb1 hHeld.1, cell_on hb1 hHeld.2.1, cell_on hb1 hHeld.2.2.1, cell_on hb1 hHeld.2.2.2.1, cell_on hb1 hHeld.2.2.2.2.1, cell_on hb1 hHeld.2.2.2.2.2.1, cell_on hb1 hHeld.2.2.2.2.2.2.1, cell_on hb1 hHeld.2.2.2.2.2.2.2⟩ (fun hHeld => ?_)
    clear hK K
    refine tq (i := 16) (d := 84) ?_
    simp only [sz, ss]
    refine tq (i := 17) (d := 85) ?_
    simp only [sz, ss]
    refine tq (i := 18) (d := 2) ?_
    simp only [sz, ss]
    refine wpAnyH_done (by kernel_rfl) ?_ _
    go_wp2_with fail
    go_ret
    exact ⟨rfl, hBel.out⟩
end Go.Proofs.YtlcddndpfhdakaaDoor
