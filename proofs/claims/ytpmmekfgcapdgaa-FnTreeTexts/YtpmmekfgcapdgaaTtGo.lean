/- FnTreeTexts: walked. -/
import Derived.Test.YtpmmekfgcapdgaaTtPlain
import Derived.Test.YtpmmekfgcapdgaaTreeTops
import Derived.Test.YtpmmekfgcapdgaaSizeBoth
import Derived.Test.YtpmmekfgcapdgaaDrawHurt
namespace Go.Proofs.Ytpmmekfgcapdgaa
open Go.RowKit Go.Deep
set_option maxHeartbeats 1000000 in
theorem drawTreeText_any {w : World} {a : Option Addr} {n cap : Nat} (h : CodeAt w a n) :
    Calls Try.prog 6 #[.slice a n cap] w fun e w' => (∃ (t k : Value) (x : TD), e = .returned (.agg #[t, k]) ∧ TreeAt w' 0 5 t k x) ∧ Below w.heap.size w w' := by
  have h' : Hid (CodeAt w a n) := h
  clear h
  have hbR : Hid (Below w.heap.size w (w.alloc (.cells #[.string ⟨#[]⟩, .slice none 0 0] 26))) := (Below.refl _ _).alloc (Nat.le_refl _) _
  have bR : Hid (Box (w.alloc (.cells #[.string ⟨#[]⟩, .slice none 0 0] 26)) w.heap.size resT 26) := Box.new w _ _
  go_enter Try.func6, Try.ntmps6
  go_wp2_with fail
  refine (drawTreeOk_any (CodeAt.below h'.out hbR.out)).mono ?_
  rintro e w1 ⟨⟨t, k, x, rfl, ht⟩, hb1⟩
  obtain ⟨⟨s, rfl⟩, a1, c1, rfl⟩ := ht.form
  have hsz : (w.alloc (.cells #[.string ⟨#[]⟩, .slice none 0 0] 26)).heap.size = w.heap.size + 1 := by simp
  have ht' : Hid (TreeAt w1 (w.heap.size + 1 + 1) 5 (.string s) (.slice a1 (kidsOf x).length c1) x) := by rw [hsz] at ht; exact ht
  have bR1 : Hid (Box w1 w.heap.size resT 26) := bR.out.below hb1 bR.out.lt
  have hB1 : Hid (Below w.heap.size w w1) := hbR.out.trans (hb1.mono hbR.out.size)
  have r0 := bR1.out.cell 0 rfl
  have r1 := bR1.out.cell 1 rfl
  have fR := bR1.out.unfrozen
  clear ht hb1 hsz
  go_wp2_with fail
  have z1 := Box.set (i := 1) (Box.set (i := 0) bR1.out (.string s)) (.slice a1 (kidsOf x).length c1)
  have z10 := z1.cell 0 rfl
  have z11 := z1.cell 1 rfl
  refine bodyPost_ret (v := .agg #[.string s, .slice a1 (kidsOf x).length c1]) (by simp [results, Try.results6, go_sem, z10, z11]) rfl ⟨⟨_, _, x, rfl, ?_⟩, (hB1.out.setCell (p := ⟨w.heap.size, 0, none⟩) (Nat.le_refl _) _).setCell (p := ⟨w.heap.size, 1, none⟩) (Nat.le_refl _) _⟩
  exact TreeAt.keep (by rw [set_size, set_size]; exact Nat.le_refl _) (Nat.zero_le _) (fun b h1 h2 => by rw [set_other (by omega), set_other (by omega)]) 5 _ _ x ht'.out
set_option maxHeartbeats 1000000 in
theorem drawReadTree_any {w : World} {a : Option Addr} {n cap : Nat} (h : CodeAt w a n) :
    Calls Try.prog 14 #[.slice a n cap] w fun e w' => (∃ s : ByteArray, e = .returned (.string s) ∧ s.size ≤ 1048576) ∧ Below w.heap.size w w' := by
  have h' : Hid (CodeAt w a n) := h
  clear h
  go_enter Try.func14, Try.ntmps14
  go_wp2_with fail
  refine (open_any h'.out).mono ?_
  rintro e w1 ⟨g, rfl, hg, hr1, hb1⟩
  have hr1' : Hid (RdAt w1 g a n cap) := hr1
  have hB1 : Hid (Below w.heap.size w w1) := hb1
  have hlt1 := hr1.lt
  clear hr1 hb1
  go_wp2_with fail
  refine (drT_all 4 (by omega) (by omega) w1 g a n cap 1 hr1'.out (by omega)).mono ?_
  rintro e w2 ⟨cs, x, fs, rfl, hok, hnd, hlo, hr2, hg2⟩
  have hB2 : Hid (Below w.heap.size w w2) := below_grown hB1.out (by omega) hg2
  have hr2' : Hid (RdAt w2 g a n cap) := hr2
  obtain ⟨t0, k0, e0, ht0⟩ := TreeOwn_at (lo := 0) 4 w2 cs x fs hok (fun _ _ => Nat.zero_le _)
  subst e0
  have ht' : Hid (TreeAt w2 0 4 t0 k0 x) := ht0
  clear hr2 hg2 hok hnd hlo ht0
  go_wp2_with fail
  refine (specTreeText_any ht'.out).mono ?_
  rintro e w3 ⟨rfl, hb3⟩
  have hB3 : Hid (Below w.heap.size w w3) := hB2.out.trans (hb3.mono hB2.out.size)
  have hr3 : Hid (RdAt w3 g a n cap) := hr2'.out.below hb3
  clear hb3
  go_wp2_with fail
  refine (hurt_any hr3.out (textR 4 x) (by have := textR_small (n := 4) (x := x); omega)).mono ?_
  rintro e w4 ⟨t, rfl, ht, _, hg4⟩
  have hB4 : Hid (Below w.heap.size w w4) := below_grown hB3.out hg hg4
  have htz : Hid (t.size ≤ 1048576) := by show _ ≤ _; have := textR_small (n := 4) (x := x); omega
  clear ht hg4
  go_wp2_with fail
  go_ret
  exact ⟨⟨t, rfl, htz.out⟩, hB4.out⟩
set_option maxHeartbeats 1000000 in
theorem big_any {a : Option Addr} {n cap : Nat} (w : World) : Calls Try.prog 5 #[.slice a n cap] w fun e w' => e = .returned (.bool (decide ((1048576 : Int) < (n : Int)))) ∧ w' = w := by
  go_enter Try.func5, Try.ntmps5
  go_wp2_with fail
  go_ret
  exact ⟨rfl, rfl⟩
set_option maxRecDepth 100000 in
set_option maxHeartbeats 8000000 in
theorem fnTreeTexts.walk {a : Option Addr} {n cap : Nat} (w : World) (_ : n ≤ maxLen) (hcode : n ≤ 1048576 → CodeAt w a n) :
    Calls Try.prog 3 #[.slice a n cap] w fun e w' => e = .returned (.bool true) ∧ Below w.heap.size w w' := by
  by_cases hbig : (1048576 : Int) < (n : Int)
  · go_enter Try.func3, Try.ntmps3
    go_wp2_with (go_at_call 5; refine (big_any _).mono ?_; rintro e w' ⟨rfl, rfl⟩; rw [decide_eq_true hbig])
    go_ret
    exact ⟨rfl, Below.refl _ _⟩
  have h' : Hid (CodeAt w a n) := hcode (by omega)
  clear hcode
  go_enter Try.func3, Try.ntmps3
  go_wp2_with (go_at_call 5; refine (big_any _).mono ?_; rintro e w' ⟨rfl, e9⟩; have e10 := e9.symm; clear e9; subst e10; rw [decide_eq_false hbig])
  refine (drawTreeText_any h'.out).mono ?_
  rintro e w1 ⟨⟨vt0, vk0, x, rfl, ht1⟩, hb1⟩
  obtain ⟨⟨st, rfl⟩, at0, ct, rfl⟩ := ht1.form
  generalize hnt : (kidsOf x).length = nt at ht1 ⊢
  have hbA : Below w1.heap.size w1 (w1.alloc (.cells #[.string st, .slice at0 nt ct] 26)) := (Below.refl _ _).alloc (Nat.le_refl _) _
  have htT : Hid (TreeAt (w1.alloc (.cells #[.string st, .slice at0 nt ct] 26)) 0 5 (.string st) (.slice at0 nt ct) x) := ht1.below hbA
  have hbT : Hid (Box (w1.alloc (.cells #[.string st, .slice at0 nt ct] 26)) w1.heap.size [.string st, .slice at0 nt ct] 26) := Box.new w1 _ _
  have hBel : Hid (Below w.heap.size w (w1.alloc (.cells #[.string st, .slice at0 nt ct] 26))) := hb1.trans (hbA.mono hb1.size)
  have hCd : Hid (CodeAt (w1.alloc (.cells #[.string st, .slice at0 nt ct] 26)) a n) := (h'.out.below hb1).below hbA
  clear ht1 hb1 hbA hnt h' hbig
  go_wp2_with fail
  generalize w1.alloc (.cells #[.string st, .slice at0 nt ct] 26) = w2 at *
  generalize w1.heap.size = BT at *
  refine (implTreeText_any htT.out).mono ?_
  rintro e w3 ⟨rfl, hb3⟩
  replace htT : Hid (TreeAt w3 0 5 (.string st) (.slice at0 nt ct) x) := htT.out.below hb3
  replace hbT : Hid (Box w3 BT [.string st, .slice at0 nt ct] 26) := hbT.out.below hb3 hbT.out.lt
  replace hBel : Hid (Below w.heap.size w w3) := hBel.out.trans (hb3.mono hBel.out.size)
  replace hCd : Hid (CodeAt w3 a n) := hCd.out.below hb3
  clear hb3
  go_wp2_with fail
  refine (implReadTree_any (s := textR 5 x) (by have := textR_small (n := 5) (x := x); omega)).mono ?_
  rintro e w4 ⟨csU, u, fU, bu, rfl, ownU, _, _, hRU0, hb4⟩
  have hRU : Hid (ReadsT (textR 5 x) u bu) := hRU0
  obtain ⟨tu, au, nu, cu, rfl⟩ : ∃ (tu : ByteArray) (au : Option Addr) (nu cu : Nat), csU = [.string tu, .slice au nu cu] := by obtain ⟨k, e, h3, _⟩ := ownU.opened; obtain ⟨y1, y2, y3⟩ := h3.form; exact ⟨_, y1, _, y2, by rw [e, y3]⟩
  have hbA : Below w4.heap.size w4 (w4.alloc (.cells #[.string tu, .slice au nu cu] 26)) := (Below.refl _ _).alloc (Nat.le_refl _) _
  have hb5 : Below w3.heap.size w3 (w4.alloc (.cells #[.string tu, .slice au nu cu] 26)) := hb4.trans (hbA.mono hb4.size)
  have htU : Hid (TreeAt (w4.alloc (.cells #[.string tu, .slice au nu cu] 26)) 0 31 (.string tu) (.slice au nu cu) u) := (TreeL.at _ _ _ _ (TreeO_at (lo := 0) _ _ _ _ _ ownU (fun _ _ => Nat.zero_le _))).below hbA
  have hbU : Hid (Box (w4.alloc (.cells #[.string tu, .slice au nu cu] 26)) w4.heap.size [.string tu, .slice au nu cu] 26) := Box.new w4 _ _
  replace htT : Hid (TreeAt (w4.alloc (.cells #[.string tu, .slice au nu cu] 26)) 0 5 (.string st) (.slice at0 nt ct) x) := htT.out.below hb5
  replace hbT : Hid (Box (w4.alloc (.cells #[.string tu, .slice au nu cu] 26)) BT [.string st, .slice at0 nt ct] 26) := hbT.out.below hb5 hbT.out.lt
  replace hBel : Hid (Below w.heap.size w (w4.alloc (.cells #[.string tu, .slice au nu cu] 26))) := hBel.out.trans (hb5.mono hBel.out.size)
  replace hCd : Hid (CodeAt (w4.alloc (.cells #[.string tu, .slice au nu cu] 26)) a n) := hCd.out.below hb5
  clear hb4 hbA hb5 ownU hRU0
  have hbu : Hid (bu = (okB (szD 5 x 30) && decide ((textR 5 x).size ≤ 1000))) := reads_same hRU.out
  cases hok : okB (szD 5 x 30)
  · rw [hok] at hbu
    obtain rfl : bu = false := hbu.out
    clear hbu
    go_wp2_with fail
    generalize w4.alloc (.cells #[.string tu, .slice au nu cu] 26) = w9 at *
    generalize w4.heap.size = BU at *
    replace htT : Hid (TreeAt w9.drew 0 5 (.string st) (.slice at0 nt ct) x) := htT.out.below (Below.drew (Below.refl _ _))
    replace htU : Hid (TreeAt w9.drew 0 31 (.string tu) (.slice au nu cu) u) := htU.out.below (Below.drew (Below.refl _ _))
    replace hBel : Hid (Below w.heap.size w w9.drew) := hBel.out.drew
    replace hbT : Hid (Box w9.drew BT [.string st, .slice at0 nt ct] 26) := hbT.out
    replace hbU : Hid (Box w9.drew BU [.string tu, .slice au nu cu] 26) := hbU.out
    replace hCd : Hid (CodeAt w9.drew a n) := hCd.out.below (Below.drew (Below.refl _ _))
    refine wp_region_held_drew (S := fun w' => w'.cell? ⟨BT, 0, none⟩ = some (.string st) ∧ w'.cell? ⟨BT, 1, none⟩ = some (.slice at0 nt ct) ∧ w'.cell? ⟨BU, 0, none⟩ = some (.string tu) ∧ w'.cell? ⟨BU, 1, none⟩ = some (.slice au nu cu)) (by kernel_rfl) ⟨hbT.out.cell 0 rfl, hbT.out.cell 1 rfl, hbU.out.cell 0 rfl, hbU.out.cell 1 rfl⟩ (fun hHeld => ?_)
    refine tq (i := 0) (d := 27) ?_
    simp only [sz, ss]
    refine tq (i := 1) (d := 28) ?_
    simp only [sz, ss]
    refine wpAnyH_ready (rs := [2]) (by kernel_rfl) (by simp) ?_
    refine AllReadyH.cons rfl (fun K hK => ?_) AllReadyH.nil
    go_simp
    refine (specTreeText_any (by exact htT.out)).mono ?_
    rintro e w1 ⟨rfl, hb1⟩
    replace htT : Hid (TreeAt w1 0 5 (.string st) (.slice at0 nt ct) x) := htT.out.below hb1
    replace htU : Hid (TreeAt w1 0 31 (.string tu) (.slice au nu cu) u) := htU.out.below hb1
    replace hBel : Hid (Below w.heap.size w w1) := hBel.out.trans (hb1.mono hBel.out.size)
    replace hbT : Hid (Box w1 BT [.string st, .slice at0 nt ct] 26) := hbT.out.below hb1 hbT.out.lt
    replace hbU : Hid (Box w1 BU [.string tu, .slice au nu cu] 26) := hbU.out.below hb1 hbU.out.lt
    replace hCd : Hid (CodeAt w1 a n) := hCd.out.below hb1
    refine hK.out _ _ ⟨cell_on hb1 hHeld.1, cell_on hb1 hHeld.2.1, cell_on hb1 hHeld.2.2.1, cell_on hb1 hHeld.2.2.2⟩ (fun hHeld => ?_)
    clear hK K
    refine tq (i := 3) (d := 30) ?_
    simp only [sz, ss]
    refine tq (i := 4) (d := 31) ?_
    simp only [sz, ss]
    refine tq (i := 5) (d := 32) ?_
    simp only [sz, ss]
    refine tq (i := 6) (d := 33) ?_
    simp only [sz, ss]
    refine wpAnyH_ready (rs := [7]) (by kernel_rfl) (by simp) ?_
    refine AllReadyH.cons rfl (fun K hK => ?_) AllReadyH.nil
    go_simp
    refine (implTreeOk_any (by exact htT.out)).mono ?_
    rintro e w1 ⟨rfl, hb1⟩
    replace htT : Hid (TreeAt w1 0 5 (.string st) (.slice at0 nt ct) x) := htT.out.below hb1
    replace htU : Hid (TreeAt w1 0 31 (.string tu) (.slice au nu cu) u) := htU.out.below hb1
    replace hBel : Hid (Below w.heap.size w w1) := hBel.out.trans (hb1.mono hBel.out.size)
    replace hbT : Hid (Box w1 BT [.string st, .slice at0 nt ct] 26) := hbT.out.below hb1 hbT.out.lt
    replace hbU : Hid (Box w1 BU [.string tu, .slice au nu cu] 26) := hbU.out.below hb1 hbU.out.lt
    replace hCd : Hid (CodeAt w1 a n) := hCd.out.below hb1
    rw [hok]
    refine hK.out _ _ ⟨cell_on hb1 hHeld.1, cell_on hb1 hHeld.2.1, cell_on hb1 hHeld.2.2.1, cell_on hb1 hHeld.2.2.2⟩ (fun hHeld => ?_)
    clear hK K
    refine tq (i := 8) (d := 35) ?_
    simp only [sz, ss]
    refine tn (i := 9) (d := 36) ?_
    simp only [sz, ss]
    refine tq (i := 10) (d := 37) ?_
    simp only [sz, ss]
    refine tq (i := 11) (d := 38) ?_
    simp only [sz, ss]
    refine tq (i := 12) (d := 39) ?_
    simp only [sz, ss]
    refine tq (i := 13) (d := 40) ?_
    simp only [sz, ss]
    refine tq (i := 14) (d := 41) ?_
    simp only [sz, ss]
    refine tq (i := 15) (d := 42) ?_
    simp only [sz, ss]
    refine tn (i := 16) (d := 43) ?_
    simp only [sz, ss]
    refine tn (i := 17) (d := 44) ?_
    simp only [sz, ss]
    refine tn (i := 18) (d := 45) ?_
    simp only [sz, ss]
    refine tn (i := 19) (d := 46) ?_
    simp only [sz, ss]
    refine tn (i := 20) (d := 47) ?_
    simp only [sz, ss]
    refine tn (i := 21) (d := 48) ?_
    simp only [sz, ss]
    refine tn (i := 22) (d := 49) ?_
    simp only [sz, ss]
    refine tn (i := 23) (d := 50) ?_
    simp only [sz, ss]
    refine tn (i := 24) (d := 51) ?_
    simp only [sz, ss]
    refine tn (i := 25) (d := 52) ?_
    simp only [sz, ss]
    refine tn (i := 26) (d := 53) ?_
    simp only [sz, ss]
    refine tq (i := 27) (d := 54) ?_
    simp only [sz, ss]
    refine tq (i := 28) (d := 55) ?_
    simp only [sz, ss]
    refine tq (i := 29) (d := 56) ?_
    simp only [sz, ss]
    refine tq (i := 30) (d := 57) ?_
    simp only [sz, ss]
    refine tq (i := 32) (d := 59) ?_
    simp only [sz, ss]
    refine wpAnyH_ready (rs := [31]) (by kernel_rfl) (by simp) ?_
    refine AllReadyH.cons rfl (fun K hK => ?_) AllReadyH.nil
    go_simp
    refine (implSizeOf_any (by exact htT.out)).mono ?_
    rintro e w1 ⟨rfl, hb1⟩
    replace htT : Hid (TreeAt w1 0 5 (.string st) (.slice at0 nt ct) x) := htT.out.below hb1
    replace htU : Hid (TreeAt w1 0 31 (.string tu) (.slice au nu cu) u) := htU.out.below hb1
    replace hBel : Hid (Below w.heap.size w w1) := hBel.out.trans (hb1.mono hBel.out.size)
    replace hbT : Hid (Box w1 BT [.string st, .slice at0 nt ct] 26) := hbT.out.below hb1 hbT.out.lt
    replace hbU : Hid (Box w1 BU [.string tu, .slice au nu cu] 26) := hbU.out.below hb1 hbU.out.lt
    replace hCd : Hid (CodeAt w1 a n) := hCd.out.below hb1
    refine hK.out _ _ ⟨cell_on hb1 hHeld.1, cell_on hb1 hHeld.2.1, cell_on hb1 hHeld.2.2.1, cell_on hb1 hHeld.2.2.2⟩ (fun hHeld => ?_)
    clear hK K
    refine wpAnyH_ready (rs := [33]) (by kernel_rfl) (by simp) ?_
    refine AllReadyH.cons rfl (fun K hK => ?_) AllReadyH.nil
    go_simp
    refine (specSizeOf_any (by exact htT.out)).mono ?_
    rintro e w1 ⟨rfl, hb1⟩
    replace htT : Hid (TreeAt w1 0 5 (.string st) (.slice at0 nt ct) x) := htT.out.below hb1
    replace htU : Hid (TreeAt w1 0 31 (.string tu) (.slice au nu cu) u) := htU.out.below hb1
    replace hBel : Hid (Below w.heap.size w w1) := hBel.out.trans (hb1.mono hBel.out.size)
    replace hbT : Hid (Box w1 BT [.string st, .slice at0 nt ct] 26) := hbT.out.below hb1 hbT.out.lt
    replace hbU : Hid (Box w1 BU [.string tu, .slice au nu cu] 26) := hbU.out.below hb1 hbU.out.lt
    replace hCd : Hid (CodeAt w1 a n) := hCd.out.below hb1
    refine hK.out _ _ ⟨cell_on hb1 hHeld.1, cell_on hb1 hHeld.2.1, cell_on hb1 hHeld.2.2.1, cell_on hb1 hHeld.2.2.2⟩ (fun hHeld => ?_)
    clear hK K
    refine tq (i := 34) (d := 61) ?_
    simp only [sz, ss]
    refine tq (i := 35) (d := 62) ?_
    simp only [sz, ss]
    refine tq (i := 36) (d := 63) ?_
    simp only [sz, ss]
    refine tq (i := 37) (d := 64) ?_
    simp only [sz, ss]
    refine tq (i := 39) (d := 66) ?_
    simp only [sz, ss]
    refine wpAnyH_ready (rs := [38]) (by kernel_rfl) (by simp) ?_
    refine AllReadyH.cons rfl (fun K hK => ?_) AllReadyH.nil
    go_simp
    refine (implTreeOk_any (by exact htT.out)).mono ?_
    rintro e w1 ⟨rfl, hb1⟩
    replace htT : Hid (TreeAt w1 0 5 (.string st) (.slice at0 nt ct) x) := htT.out.below hb1
    replace htU : Hid (TreeAt w1 0 31 (.string tu) (.slice au nu cu) u) := htU.out.below hb1
    replace hBel : Hid (Below w.heap.size w w1) := hBel.out.trans (hb1.mono hBel.out.size)
    replace hbT : Hid (Box w1 BT [.string st, .slice at0 nt ct] 26) := hbT.out.below hb1 hbT.out.lt
    replace hbU : Hid (Box w1 BU [.string tu, .slice au nu cu] 26) := hbU.out.below hb1 hbU.out.lt
    replace hCd : Hid (CodeAt w1 a n) := hCd.out.below hb1
    rw [hok]
    refine hK.out _ _ ⟨cell_on hb1 hHeld.1, cell_on hb1 hHeld.2.1, cell_on hb1 hHeld.2.2.1, cell_on hb1 hHeld.2.2.2⟩ (fun hHeld => ?_)
    clear hK K
    refine wpAnyH_ready (rs := [40]) (by kernel_rfl) (by simp) ?_
    refine AllReadyH.cons rfl (fun K hK => ?_) AllReadyH.nil
    go_simp
    refine (specTreeOk_any (by exact htT.out)).mono ?_
    rintro e w1 ⟨rfl, hb1⟩
    replace htT : Hid (TreeAt w1 0 5 (.string st) (.slice at0 nt ct) x) := htT.out.below hb1
    replace htU : Hid (TreeAt w1 0 31 (.string tu) (.slice au nu cu) u) := htU.out.below hb1
    replace hBel : Hid (Below w.heap.size w w1) := hBel.out.trans (hb1.mono hBel.out.size)
    replace hbT : Hid (Box w1 BT [.string st, .slice at0 nt ct] 26) := hbT.out.below hb1 hbT.out.lt
    replace hbU : Hid (Box w1 BU [.string tu, .slice au nu cu] 26) := hbU.out.below hb1 hbU.out.lt
    replace hCd : Hid (CodeAt w1 a n) := hCd.out.below hb1
    rw [hok]
    refine hK.out _ _ ⟨cell_on hb1 hHeld.1, cell_on hb1 hHeld.2.1, cell_on hb1 hHeld.2.2.1, cell_on hb1 hHeld.2.2.2⟩ (fun hHeld => ?_)
    clear hK K
    refine tq (i := 41) (d := 68) ?_
    simp only [sz, ss]
    refine tq (i := 42) (d := 69) ?_
    simp only [sz, ss]
    refine wpAnyH_done (by kernel_rfl) ?_ _
    clear htT htU hbT hbU
    go_wp2_with fail
    refine (drawReadTree_any hCd.out).mono ?_
    rintro e w6 ⟨⟨sx, rfl, hsx⟩, hb6⟩
    have hsx' : Hid (sx.size ≤ 1048576) := hsx
    replace hBel : Hid (Below w.heap.size w w6) := hBel.out.trans (hb6.mono hBel.out.size)
    clear hb6 hCd hsx
    go_wp2_with fail
    refine (implReadTree_any hsx'.out).mono ?_
    rintro e w7 ⟨csV, vv, fV, bv, rfl, ownV, _, _, hRV0, hb7⟩
    have hRV : Hid (ReadsT sx vv bv) := hRV0
    obtain ⟨tv, av, nv, cv, rfl⟩ : ∃ (tv : ByteArray) (av : Option Addr) (nv cv : Nat), csV = [.string tv, .slice av nv cv] := by obtain ⟨k, e, h3, _⟩ := ownV.opened; obtain ⟨y1, y2, y3⟩ := h3.form; exact ⟨_, y1, _, y2, by rw [e, y3]⟩
    have hbA : Below w7.heap.size w7 (w7.alloc (.cells #[.string tv, .slice av nv cv] 26)) := (Below.refl _ _).alloc (Nat.le_refl _) _
    have htV : Hid (TreeAt (w7.alloc (.cells #[.string tv, .slice av nv cv] 26)) 0 31 (.string tv) (.slice av nv cv) vv) := (TreeL.at _ _ _ _ (TreeO_at (lo := 0) _ _ _ _ _ ownV (fun _ _ => Nat.zero_le _))).below hbA
    have hbV : Hid (Box (w7.alloc (.cells #[.string tv, .slice av nv cv] 26)) w7.heap.size [.string tv, .slice av nv cv] 26) := Box.new w7 _ _
    replace hBel : Hid (Below w.heap.size w (w7.alloc (.cells #[.string tv, .slice av nv cv] 26))) := hBel.out.trans ((hb7.trans (hbA.mono hb7.size)).mono hBel.out.size)
    clear hb7 hbA ownV hRV0
    go_wp2_with fail
    refine (specReadTree_any hsx'.out).mono ?_
    rintro e w8 ⟨csS, ss, fS, bs, rfl, ownS, _, _, hRS0, hb8⟩
    obtain ⟨_, e2⟩ := hRS0.one hRV.out
    subst e2
    obtain ⟨ts, as0, ns, cs0, rfl⟩ : ∃ (ts : ByteArray) (as0 : Option Addr) (ns cs0 : Nat), csS = [.string ts, .slice as0 ns cs0] := by obtain ⟨k, e, h3, _⟩ := ownS.opened; obtain ⟨y1, y2, y3⟩ := h3.form; exact ⟨_, y1, _, y2, by rw [e, y3]⟩
    have hb8a : Below (w7.alloc (.cells #[.string tv, .slice av nv cv] 26)).heap.size (w7.alloc (.cells #[.string tv, .slice av nv cv] 26)) (w8.alloc (.cells #[.string ts, .slice as0 ns cs0] 26)) := hb8.alloc hb8.size _
    replace hBel : Hid (Below w.heap.size w (w8.alloc (.cells #[.string ts, .slice as0 ns cs0] 26))) := hBel.out.trans (hb8a.mono hBel.out.size)
    replace htV : Hid (TreeAt (w8.alloc (.cells #[.string ts, .slice as0 ns cs0] 26)) 0 31 (.string tv) (.slice av nv cv) vv) := htV.out.below hb8a
    replace hbV : Hid (Box (w8.alloc (.cells #[.string ts, .slice as0 ns cs0] 26)) w7.heap.size [.string tv, .slice av nv cv] 26) := hbV.out.below hb8a hbV.out.lt
    clear hb8a hb8 ownS hRS0
    have v0 := hbV.out.cell 0 rfl
    have v1 := hbV.out.cell 1 rfl
    cases bs
    · go_wp2_with fail
      go_ret
      exact ⟨rfl, hBel.out⟩
    · have hTV : Hid (textR 31 vv = sx) := hRV.out.text
      go_wp2_with fail
      refine (implTreeText_any htV.out).mono ?_
      rintro e w10 ⟨rfl, hb10⟩
      rw [hTV.out]
      replace hBel : Hid (Below w.heap.size w w10) := hBel.out.trans (hb10.mono hBel.out.size)
      clear hb10
      go_wp2_with fail
      go_ret
      exact ⟨rfl, hBel.out⟩

  · have hok' : Hid (okB (szD 5 x 30) = true) := hok
    rw [hok] at hbu
    by_cases hf : ((textR 5 x).size : Int) ≤ 1000
    · obtain rfl : bu = true := by rw [hbu.out]; simp; omega
      have hTU : Hid (textR 31 u = textR 5 x) := hRU.out.text
      have hSU : Hid (resI (szD 31 u 30) = resI (szD 5 x 30)) := reads_size hRU.out
      clear hbu
      go_wp2_with fail
      generalize w4.alloc (.cells #[.string tu, .slice au nu cu] 26) = w9 at *
      generalize w4.heap.size = BU at *
      replace htT : Hid (TreeAt w9.drew 0 5 (.string st) (.slice at0 nt ct) x) := htT.out.below (Below.drew (Below.refl _ _))
      replace htU : Hid (TreeAt w9.drew 0 31 (.string tu) (.slice au nu cu) u) := htU.out.below (Below.drew (Below.refl _ _))
      replace hBel : Hid (Below w.heap.size w w9.drew) := hBel.out.drew
      replace hbT : Hid (Box w9.drew BT [.string st, .slice at0 nt ct] 26) := hbT.out
      replace hbU : Hid (Box w9.drew BU [.string tu, .slice au nu cu] 26) := hbU.out
      replace hCd : Hid (CodeAt w9.drew a n) := hCd.out.below (Below.drew (Below.refl _ _))
      refine wp_region_held_drew (S := fun w' => w'.cell? ⟨BT, 0, none⟩ = some (.string st) ∧ w'.cell? ⟨BT, 1, none⟩ = some (.slice at0 nt ct) ∧ w'.cell? ⟨BU, 0, none⟩ = some (.string tu) ∧ w'.cell? ⟨BU, 1, none⟩ = some (.slice au nu cu)) (by kernel_rfl) ⟨hbT.out.cell 0 rfl, hbT.out.cell 1 rfl, hbU.out.cell 0 rfl, hbU.out.cell 1 rfl⟩ (fun hHeld => ?_)
      refine tq (i := 0) (d := 27) ?_
      simp only [sz, ss]
      refine tq (i := 1) (d := 28) ?_
      simp only [sz, ss]
      refine wpAnyH_ready (rs := [2]) (by kernel_rfl) (by simp) ?_
      refine AllReadyH.cons rfl (fun K hK => ?_) AllReadyH.nil
      go_simp
      refine (specTreeText_any (by exact htT.out)).mono ?_
      rintro e w1 ⟨rfl, hb1⟩
      replace htT : Hid (TreeAt w1 0 5 (.string st) (.slice at0 nt ct) x) := htT.out.below hb1
      replace htU : Hid (TreeAt w1 0 31 (.string tu) (.slice au nu cu) u) := htU.out.below hb1
      replace hBel : Hid (Below w.heap.size w w1) := hBel.out.trans (hb1.mono hBel.out.size)
      replace hbT : Hid (Box w1 BT [.string st, .slice at0 nt ct] 26) := hbT.out.below hb1 hbT.out.lt
      replace hbU : Hid (Box w1 BU [.string tu, .slice au nu cu] 26) := hbU.out.below hb1 hbU.out.lt
      replace hCd : Hid (CodeAt w1 a n) := hCd.out.below hb1
      refine hK.out _ _ ⟨cell_on hb1 hHeld.1, cell_on hb1 hHeld.2.1, cell_on hb1 hHeld.2.2.1, cell_on hb1 hHeld.2.2.2⟩ (fun hHeld => ?_)
      clear hK K
      refine tq (i := 3) (d := 30) ?_
      simp only [sz, ss]
      refine tq (i := 4) (d := 31) ?_
      simp only [sz, ss]
      refine tq (i := 5) (d := 32) ?_
      simp only [sz, ss]
      refine tq (i := 6) (d := 33) ?_
      simp only [sz, ss]
      refine wpAnyH_ready (rs := [7]) (by kernel_rfl) (by simp) ?_
      refine AllReadyH.cons rfl (fun K hK => ?_) AllReadyH.nil
      go_simp
      refine (implTreeOk_any (by exact htT.out)).mono ?_
      rintro e w1 ⟨rfl, hb1⟩
      replace htT : Hid (TreeAt w1 0 5 (.string st) (.slice at0 nt ct) x) := htT.out.below hb1
      replace htU : Hid (TreeAt w1 0 31 (.string tu) (.slice au nu cu) u) := htU.out.below hb1
      replace hBel : Hid (Below w.heap.size w w1) := hBel.out.trans (hb1.mono hBel.out.size)
      replace hbT : Hid (Box w1 BT [.string st, .slice at0 nt ct] 26) := hbT.out.below hb1 hbT.out.lt
      replace hbU : Hid (Box w1 BU [.string tu, .slice au nu cu] 26) := hbU.out.below hb1 hbU.out.lt
      replace hCd : Hid (CodeAt w1 a n) := hCd.out.below hb1
      rw [hok]
      refine hK.out _ _ ⟨cell_on hb1 hHeld.1, cell_on hb1 hHeld.2.1, cell_on hb1 hHeld.2.2.1, cell_on hb1 hHeld.2.2.2⟩ (fun hHeld => ?_)
      clear hK K
      refine tq (i := 8) (d := 35) ?_
      simp only [sz, ss]
      refine tq (i := 9) (d := 36) ?_
      simp only [sz, ss]
      refine tq (i := 10) (d := 37) ?_
      simp only [sz, ss]
      refine tq (i := 11) (d := 38) ?_
      simp only [sz, ss]
      refine tq (i := 12) (d := 39) ?_
      simp only [sz, ss]
      refine tq (i := 13) (d := 40) ?_
      simp only [sz, ss]
      refine tq (i := 14) (d := 41) ?_
      simp only [sz, ss]
      refine tq (i := 15) (d := 42) ?_
      simp only [sz, ss]
      refine tq (i := 16) (d := 43) ?_
      simp only [sz, ss]
      refine tq (i := 18) (d := 45) ?_
      simp only [sz, ss]
      refine wpAnyH_ready (rs := [17]) (by kernel_rfl) (by simp) ?_
      refine AllReadyH.cons rfl (fun K hK => ?_) AllReadyH.nil
      go_simp
      refine (implTreeText_any (by exact htU.out)).mono ?_
      rintro e w1 ⟨rfl, hb1⟩
      replace htT : Hid (TreeAt w1 0 5 (.string st) (.slice at0 nt ct) x) := htT.out.below hb1
      replace htU : Hid (TreeAt w1 0 31 (.string tu) (.slice au nu cu) u) := htU.out.below hb1
      replace hBel : Hid (Below w.heap.size w w1) := hBel.out.trans (hb1.mono hBel.out.size)
      replace hbT : Hid (Box w1 BT [.string st, .slice at0 nt ct] 26) := hbT.out.below hb1 hbT.out.lt
      replace hbU : Hid (Box w1 BU [.string tu, .slice au nu cu] 26) := hbU.out.below hb1 hbU.out.lt
      replace hCd : Hid (CodeAt w1 a n) := hCd.out.below hb1
      rw [hTU.out]
      refine hK.out _ _ ⟨cell_on hb1 hHeld.1, cell_on hb1 hHeld.2.1, cell_on hb1 hHeld.2.2.1, cell_on hb1 hHeld.2.2.2⟩ (fun hHeld => ?_)
      clear hK K
      refine tq (i := 19) (d := 46) ?_
      simp only [sz, ss]
      refine tq (i := 20) (d := 47) ?_
      simp only [sz, ss]
      refine tq (i := 21) (d := 48) ?_
      simp only [sz, ss]
      refine tq (i := 23) (d := 50) ?_
      simp only [sz, ss]
      refine wpAnyH_ready (rs := [22]) (by kernel_rfl) (by simp) ?_
      refine AllReadyH.cons rfl (fun K hK => ?_) AllReadyH.nil
      go_simp
      refine (implSizeOf_any (by exact htU.out)).mono ?_
      rintro e w1 ⟨rfl, hb1⟩
      replace htT : Hid (TreeAt w1 0 5 (.string st) (.slice at0 nt ct) x) := htT.out.below hb1
      replace htU : Hid (TreeAt w1 0 31 (.string tu) (.slice au nu cu) u) := htU.out.below hb1
      replace hBel : Hid (Below w.heap.size w w1) := hBel.out.trans (hb1.mono hBel.out.size)
      replace hbT : Hid (Box w1 BT [.string st, .slice at0 nt ct] 26) := hbT.out.below hb1 hbT.out.lt
      replace hbU : Hid (Box w1 BU [.string tu, .slice au nu cu] 26) := hbU.out.below hb1 hbU.out.lt
      replace hCd : Hid (CodeAt w1 a n) := hCd.out.below hb1
      rw [hSU.out]
      refine hK.out _ _ ⟨cell_on hb1 hHeld.1, cell_on hb1 hHeld.2.1, cell_on hb1 hHeld.2.2.1, cell_on hb1 hHeld.2.2.2⟩ (fun hHeld => ?_)
      clear hK K
      refine wpAnyH_ready (rs := [24]) (by kernel_rfl) (by simp) ?_
      refine AllReadyH.cons rfl (fun K hK => ?_) AllReadyH.nil
      go_simp
      refine (implSizeOf_any (by exact htT.out)).mono ?_
      rintro e w1 ⟨rfl, hb1⟩
      replace htT : Hid (TreeAt w1 0 5 (.string st) (.slice at0 nt ct) x) := htT.out.below hb1
      replace htU : Hid (TreeAt w1 0 31 (.string tu) (.slice au nu cu) u) := htU.out.below hb1
      replace hBel : Hid (Below w.heap.size w w1) := hBel.out.trans (hb1.mono hBel.out.size)
      replace hbT : Hid (Box w1 BT [.string st, .slice at0 nt ct] 26) := hbT.out.below hb1 hbT.out.lt
      replace hbU : Hid (Box w1 BU [.string tu, .slice au nu cu] 26) := hbU.out.below hb1 hbU.out.lt
      replace hCd : Hid (CodeAt w1 a n) := hCd.out.below hb1
      refine hK.out _ _ ⟨cell_on hb1 hHeld.1, cell_on hb1 hHeld.2.1, cell_on hb1 hHeld.2.2.1, cell_on hb1 hHeld.2.2.2⟩ (fun hHeld => ?_)
      clear hK K
      refine tq (i := 25) (d := 52) ?_
      simp only [sz, ss]
      refine tq (i := 26) (d := 53) ?_
      simp only [sz, ss]
      refine tq (i := 27) (d := 54) ?_
      simp only [sz, ss]
      refine tq (i := 28) (d := 55) ?_
      simp only [sz, ss]
      refine tq (i := 29) (d := 56) ?_
      simp only [sz, ss]
      refine tq (i := 30) (d := 57) ?_
      simp only [sz, ss]
      refine tq (i := 32) (d := 59) ?_
      simp only [sz, ss]
      refine wpAnyH_ready (rs := [31]) (by kernel_rfl) (by simp) ?_
      refine AllReadyH.cons rfl (fun K hK => ?_) AllReadyH.nil
      go_simp
      refine (implSizeOf_any (by exact htT.out)).mono ?_
      rintro e w1 ⟨rfl, hb1⟩
      replace htT : Hid (TreeAt w1 0 5 (.string st) (.slice at0 nt ct) x) := htT.out.below hb1
      replace htU : Hid (TreeAt w1 0 31 (.string tu) (.slice au nu cu) u) := htU.out.below hb1
      replace hBel : Hid (Below w.heap.size w w1) := hBel.out.trans (hb1.mono hBel.out.size)
      replace hbT : Hid (Box w1 BT [.string st, .slice at0 nt ct] 26) := hbT.out.below hb1 hbT.out.lt
      replace hbU : Hid (Box w1 BU [.string tu, .slice au nu cu] 26) := hbU.out.below hb1 hbU.out.lt
      replace hCd : Hid (CodeAt w1 a n) := hCd.out.below hb1
      refine hK.out _ _ ⟨cell_on hb1 hHeld.1, cell_on hb1 hHeld.2.1, cell_on hb1 hHeld.2.2.1, cell_on hb1 hHeld.2.2.2⟩ (fun hHeld => ?_)
      clear hK K
      refine wpAnyH_ready (rs := [33]) (by kernel_rfl) (by simp) ?_
      refine AllReadyH.cons rfl (fun K hK => ?_) AllReadyH.nil
      go_simp
      refine (specSizeOf_any (by exact htT.out)).mono ?_
      rintro e w1 ⟨rfl, hb1⟩
      replace htT : Hid (TreeAt w1 0 5 (.string st) (.slice at0 nt ct) x) := htT.out.below hb1
      replace htU : Hid (TreeAt w1 0 31 (.string tu) (.slice au nu cu) u) := htU.out.below hb1
      replace hBel : Hid (Below w.heap.size w w1) := hBel.out.trans (hb1.mono hBel.out.size)
      replace hbT : Hid (Box w1 BT [.string st, .slice at0 nt ct] 26) := hbT.out.below hb1 hbT.out.lt
      replace hbU : Hid (Box w1 BU [.string tu, .slice au nu cu] 26) := hbU.out.below hb1 hbU.out.lt
      replace hCd : Hid (CodeAt w1 a n) := hCd.out.below hb1
      refine hK.out _ _ ⟨cell_on hb1 hHeld.1, cell_on hb1 hHeld.2.1, cell_on hb1 hHeld.2.2.1, cell_on hb1 hHeld.2.2.2⟩ (fun hHeld => ?_)
      clear hK K
      refine tq (i := 34) (d := 61) ?_
      simp only [sz, ss]
      refine tq (i := 35) (d := 62) ?_
      simp only [sz, ss]
      refine tq (i := 36) (d := 63) ?_
      simp only [sz, ss]
      refine tq (i := 37) (d := 64) ?_
      simp only [sz, ss]
      refine tq (i := 39) (d := 66) ?_
      simp only [sz, ss]
      refine wpAnyH_ready (rs := [38]) (by kernel_rfl) (by simp) ?_
      refine AllReadyH.cons rfl (fun K hK => ?_) AllReadyH.nil
      go_simp
      refine (implTreeOk_any (by exact htT.out)).mono ?_
      rintro e w1 ⟨rfl, hb1⟩
      replace htT : Hid (TreeAt w1 0 5 (.string st) (.slice at0 nt ct) x) := htT.out.below hb1
      replace htU : Hid (TreeAt w1 0 31 (.string tu) (.slice au nu cu) u) := htU.out.below hb1
      replace hBel : Hid (Below w.heap.size w w1) := hBel.out.trans (hb1.mono hBel.out.size)
      replace hbT : Hid (Box w1 BT [.string st, .slice at0 nt ct] 26) := hbT.out.below hb1 hbT.out.lt
      replace hbU : Hid (Box w1 BU [.string tu, .slice au nu cu] 26) := hbU.out.below hb1 hbU.out.lt
      replace hCd : Hid (CodeAt w1 a n) := hCd.out.below hb1
      rw [hok]
      refine hK.out _ _ ⟨cell_on hb1 hHeld.1, cell_on hb1 hHeld.2.1, cell_on hb1 hHeld.2.2.1, cell_on hb1 hHeld.2.2.2⟩ (fun hHeld => ?_)
      clear hK K
      refine wpAnyH_ready (rs := [40]) (by kernel_rfl) (by simp) ?_
      refine AllReadyH.cons rfl (fun K hK => ?_) AllReadyH.nil
      go_simp
      refine (specTreeOk_any (by exact htT.out)).mono ?_
      rintro e w1 ⟨rfl, hb1⟩
      replace htT : Hid (TreeAt w1 0 5 (.string st) (.slice at0 nt ct) x) := htT.out.below hb1
      replace htU : Hid (TreeAt w1 0 31 (.string tu) (.slice au nu cu) u) := htU.out.below hb1
      replace hBel : Hid (Below w.heap.size w w1) := hBel.out.trans (hb1.mono hBel.out.size)
      replace hbT : Hid (Box w1 BT [.string st, .slice at0 nt ct] 26) := hbT.out.below hb1 hbT.out.lt
      replace hbU : Hid (Box w1 BU [.string tu, .slice au nu cu] 26) := hbU.out.below hb1 hbU.out.lt
      replace hCd : Hid (CodeAt w1 a n) := hCd.out.below hb1
      rw [hok]
      refine hK.out _ _ ⟨cell_on hb1 hHeld.1, cell_on hb1 hHeld.2.1, cell_on hb1 hHeld.2.2.1, cell_on hb1 hHeld.2.2.2⟩ (fun hHeld => ?_)
      clear hK K
      refine tq (i := 41) (d := 68) ?_
      simp only [sz, ss]
      refine tq (i := 42) (d := 69) ?_
      simp only [sz, ss]
      refine wpAnyH_done (by kernel_rfl) ?_ _
      clear htT htU hbT hbU
      go_wp2_with fail
      refine (drawReadTree_any hCd.out).mono ?_
      rintro e w6 ⟨⟨sx, rfl, hsx⟩, hb6⟩
      have hsx' : Hid (sx.size ≤ 1048576) := hsx
      replace hBel : Hid (Below w.heap.size w w6) := hBel.out.trans (hb6.mono hBel.out.size)
      clear hb6 hCd hsx
      go_wp2_with fail
      refine (implReadTree_any hsx'.out).mono ?_
      rintro e w7 ⟨csV, vv, fV, bv, rfl, ownV, _, _, hRV0, hb7⟩
      have hRV : Hid (ReadsT sx vv bv) := hRV0
      obtain ⟨tv, av, nv, cv, rfl⟩ : ∃ (tv : ByteArray) (av : Option Addr) (nv cv : Nat), csV = [.string tv, .slice av nv cv] := by obtain ⟨k, e, h3, _⟩ := ownV.opened; obtain ⟨y1, y2, y3⟩ := h3.form; exact ⟨_, y1, _, y2, by rw [e, y3]⟩
      have hbA : Below w7.heap.size w7 (w7.alloc (.cells #[.string tv, .slice av nv cv] 26)) := (Below.refl _ _).alloc (Nat.le_refl _) _
      have htV : Hid (TreeAt (w7.alloc (.cells #[.string tv, .slice av nv cv] 26)) 0 31 (.string tv) (.slice av nv cv) vv) := (TreeL.at _ _ _ _ (TreeO_at (lo := 0) _ _ _ _ _ ownV (fun _ _ => Nat.zero_le _))).below hbA
      have hbV : Hid (Box (w7.alloc (.cells #[.string tv, .slice av nv cv] 26)) w7.heap.size [.string tv, .slice av nv cv] 26) := Box.new w7 _ _
      replace hBel : Hid (Below w.heap.size w (w7.alloc (.cells #[.string tv, .slice av nv cv] 26))) := hBel.out.trans ((hb7.trans (hbA.mono hb7.size)).mono hBel.out.size)
      clear hb7 hbA ownV hRV0
      go_wp2_with fail
      refine (specReadTree_any hsx'.out).mono ?_
      rintro e w8 ⟨csS, ss, fS, bs, rfl, ownS, _, _, hRS0, hb8⟩
      obtain ⟨_, e2⟩ := hRS0.one hRV.out
      subst e2
      obtain ⟨ts, as0, ns, cs0, rfl⟩ : ∃ (ts : ByteArray) (as0 : Option Addr) (ns cs0 : Nat), csS = [.string ts, .slice as0 ns cs0] := by obtain ⟨k, e, h3, _⟩ := ownS.opened; obtain ⟨y1, y2, y3⟩ := h3.form; exact ⟨_, y1, _, y2, by rw [e, y3]⟩
      have hb8a : Below (w7.alloc (.cells #[.string tv, .slice av nv cv] 26)).heap.size (w7.alloc (.cells #[.string tv, .slice av nv cv] 26)) (w8.alloc (.cells #[.string ts, .slice as0 ns cs0] 26)) := hb8.alloc hb8.size _
      replace hBel : Hid (Below w.heap.size w (w8.alloc (.cells #[.string ts, .slice as0 ns cs0] 26))) := hBel.out.trans (hb8a.mono hBel.out.size)
      replace htV : Hid (TreeAt (w8.alloc (.cells #[.string ts, .slice as0 ns cs0] 26)) 0 31 (.string tv) (.slice av nv cv) vv) := htV.out.below hb8a
      replace hbV : Hid (Box (w8.alloc (.cells #[.string ts, .slice as0 ns cs0] 26)) w7.heap.size [.string tv, .slice av nv cv] 26) := hbV.out.below hb8a hbV.out.lt
      clear hb8a hb8 ownS hRS0
      have v0 := hbV.out.cell 0 rfl
      have v1 := hbV.out.cell 1 rfl
      cases bs
      · go_wp2_with fail
        go_ret
        exact ⟨rfl, hBel.out⟩
      · have hTV : Hid (textR 31 vv = sx) := hRV.out.text
        go_wp2_with fail
        refine (implTreeText_any htV.out).mono ?_
        rintro e w10 ⟨rfl, hb10⟩
        rw [hTV.out]
        replace hBel : Hid (Below w.heap.size w w10) := hBel.out.trans (hb10.mono hBel.out.size)
        clear hb10
        go_wp2_with fail
        go_ret
        exact ⟨rfl, hBel.out⟩

    · exact absurd (textR_small (n := 5) (x := x)) (by omega)
end Go.Proofs.Ytpmmekfgcapdgaa
