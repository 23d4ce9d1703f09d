/- The end of FnGrafted, from its eighth region on. -/
import Derived.Test.YtapjplecdfemeaaTreeTops
import Derived.Test.YtapjplecdfemeaaGraftPlain
import Derived.Test.YtapjplecdfemeaaGraftRows
import Derived.Deep.AppendLies
namespace Go.Proofs.Ytapjplecdfemeaa.fnGrafted
open Go.RowKit Go.Deep
/-- both trees lie there, and in these blocks -/
def GSt (A B : Nat) (ta ka tb kb : Value) (xa xb : TD) (wr : World) : Prop := TreeAt wr 0 6 ta ka xa ∧ TreeAt wr 0 5 tb kb xb ∧ Box wr A [ta, ka] 26 ∧ Box wr B [tb, kb] 26
theorem GSt.below {A B : Nat} {ta ka tb kb : Value} {xa xb : TD} {wr w' : World} (h : GSt A B ta ka tb kb xa xb wr) (hb : Below wr.heap.size wr w') : GSt A B ta ka tb kb xa xb w' :=
  ⟨h.1.below hb, h.2.1.below hb, h.2.2.1.below hb h.2.2.1.lt, h.2.2.2.below hb h.2.2.2.lt⟩
theorem GSt.cells {A B : Nat} {ta ka tb kb : Value} {xa xb : TD} {wr : World} (h : GSt A B ta ka tb kb xa xb wr) : wr.cell? ⟨A, 0, none⟩ = some ta ∧ wr.cell? ⟨A, 1, none⟩ = some ka ∧ wr.cell? ⟨B, 0, none⟩ = some tb ∧ wr.cell? ⟨B, 1, none⟩ = some kb :=
  ⟨h.2.2.1.cell 0 rfl, h.2.2.1.cell 1 rfl, h.2.2.2.cell 0 rfl, h.2.2.2.cell 1 rfl⟩
/-- and the third -/
def GS3 (A B C : Nat) (ta ka tb kb v : Value) (xa xb xc : TD) (wr : World) : Prop := GSt A B ta ka tb kb xa xb wr ∧ TreeAt wr 0 6 ta v xc ∧ Box wr C [ta, v] 26
theorem GS3.below {A B C : Nat} {ta ka tb kb v : Value} {xa xb xc : TD} {wr w' : World} (h : GS3 A B C ta ka tb kb v xa xb xc wr) (hb : Below wr.heap.size wr w') : GS3 A B C ta ka tb kb v xa xb xc w' :=
  ⟨h.1.below hb, h.2.1.below hb, h.2.2.below hb h.2.2.lt⟩
theorem GS3.cells {A B C : Nat} {ta ka tb kb v : Value} {xa xb xc : TD} {wr : World} (h : GS3 A B C ta ka tb kb v xa xb xc wr) : wr.cell? ⟨B, 0, none⟩ = some tb ∧ wr.cell? ⟨B, 1, none⟩ = some kb ∧ wr.cell? ⟨C, 0, none⟩ = some ta ∧ wr.cell? ⟨C, 1, none⟩ = some v :=
  ⟨h.1.2.2.2.cell 0 rfl, h.1.2.2.2.cell 1 rfl, h.2.2.cell 0 rfl, h.2.2.cell 1 rfl⟩
theorem d_slice_to (s : ByteArray) (j : Nat) (hj : j ≤ s.size) (w : World) :
    (Instr.slice 9 (.string s) none (some (.int .i64 j)) none).run Try.prog w = .ok (.string (s.extract 0 j)) w := by
  have := run_slice_string_h (P := Try.prog) w 9 s Try.underlying9 .i64 j (by omega) (by omega)
  simpa using this
/-- what stands behind so many pieces -/
def dropSeq : Nat → Code → Code
  | 0, c => c
  | k + 1, .seq _ b => dropSeq k b
  | _ + 1, c => c
noncomputable def codeAt (k : Nat) : Code := dropSeq k (Try.f4.body.getD .skip)
set_option maxRecDepth 100000 in
set_option maxHeartbeats 4000000 in
theorem tail_any {w0 : World} {a : Option Addr} {n cap A B : Nat} {sa sb : ByteArray} {aa ab : Option Addr} {ca cb : Nat} {xa xb : TD} {C g8 cap8 : Nat} {x37 x40 x42 : Value} {ma mb : Int} {wc : World} (hma' : Hid (szD 6 xa 30 = some ma)) (hmb' : Hid (szD 5 xb 30 = some mb)) (htl : Hid ((tagOf xa).length ≤ 6)) (hsg : Hid (tagOf xa = sa.data.toList))
    (hGc : Hid (GS3 A B C (.string sa) (.slice aa (kidsOf xa).length ca) (.string sb) (.slice ab (kidsOf xb).length cb) (.slice (some ⟨g8, 0, none⟩) ((kidsOf xa).length + 1) cap8) xa xb (mkT sa (kidsOf xa ++ [xb])) wc)) (hBc : Hid (Below w0.heap.size w0 wc)) : Code.wp Try.prog (codeAt 6) (bodyPost Try.prog Try.f4 fun e w' => e = .returned (.bool true) ∧ Below w0.heap.size w0 w') ⟨#[.slice a n cap, undef, .bool false, .pointer (some ⟨A, 0, none⟩), .pointer (some ⟨B, 0, none⟩), .pointer (some ⟨C, 0, none⟩), undef, undef, undef, .slice a n cap, .bool false, .slice a n cap, .agg #[.string sa, .slice aa (kidsOf xa).length ca], .slice a n cap, .agg #[.string sb, .slice ab (kidsOf xb).length cb], .agg #[.string sa, .slice aa (kidsOf xa).length ca], .bool true, .agg #[.string sa, .slice aa (kidsOf xa).length ca], .bool true, .bool false, .bool false, .agg #[.string sa, .slice aa (kidsOf xa).length ca], .bool true, .bool false, .bool false, .bool false, .agg #[.string sb, .slice ab (kidsOf xb).length cb], .bool true, .bool false, .bool false, undef, undef, undef, undef, undef, .pointer (some ⟨A, 0, none⟩), .string sa, x37, .pointer (some ⟨A, 1, none⟩), .slice aa (kidsOf xa).length ca, x40, .agg #[.string sb, .slice ab (kidsOf xb).length cb], x42, (.slice (some ⟨g8, 0, none⟩) ((kidsOf xa).length + 1) cap8), .agg #[.string sa, (.slice (some ⟨g8, 0, none⟩) ((kidsOf xa).length + 1) cap8)], undef, undef, undef, undef, undef, undef, undef, undef, undef, undef, undef, undef, undef, undef, undef, undef, undef, undef, undef, undef, undef, undef, undef, undef, undef, undef, undef, undef, undef, undef, undef, undef, undef, undef, undef, undef, undef, undef, undef, undef, undef, undef], []⟩ wc := by
  conv => arg 2; whnf
  have hmr := szD_range _ _ _ _ hma'.out
  have hmr2 := szD_range _ _ _ _ hmb'.out
  have hwm : IntKind.i64.wrap (ma + mb) = ma + mb := by rw [IntKind.wrap_i64]; omega
  go_wp2_with fail
  have hG0 : Hid (GS3 A B C (.string sa) (.slice aa (kidsOf xa).length ca) (.string sb) (.slice ab (kidsOf xb).length cb) (.slice (some ⟨g8, 0, none⟩) ((kidsOf xa).length + 1) cap8) xa xb (mkT sa (kidsOf xa ++ [xb])) wc.drew) := hGc.out.below (Below.drew (Below.refl _ _))
  have hB0 : Hid (Below w0.heap.size w0 wc.drew) := hBc.out.drew
  obtain ⟨a0, a1, b0, b1⟩ := GSt.cells hG0.out.1
  refine wp_region_held_drew (S := fun w' => w'.cell? ⟨A, 0, none⟩ = some (.string sa) ∧ w'.cell? ⟨A, 1, none⟩ = some (.slice aa (kidsOf xa).length ca) ∧ w'.cell? ⟨B, 0, none⟩ = some (.string sb) ∧ w'.cell? ⟨B, 1, none⟩ = some (.slice ab (kidsOf xb).length cb)) (by kernel_rfl) (by refine ⟨?_, ?_, ?_, ?_⟩ <;> assumption) (fun hHeld => ?_)
  refine take_lit (i := 0) (d := 45) (v := ?_) rfl rfl (by kernel_rfl) (by kernel_rfl) (by kernel_rfl) (fun _ _ _ h => h) (Or.inl ⟨by rfl, ?_⟩) (by assumption) ?_
  rotate_left
  · (intro w hSw; (try dsimp only at hSw); first | (go_simp; done) | (go_simp; with_reducible rfl))
  simp only [List.set_cons_zero, List.set_cons_succ]
  refine take_lit (i := 2) (d := 47) (v := ?_) rfl rfl (by kernel_rfl) (by kernel_rfl) (by kernel_rfl) (fun _ _ _ h => h) (Or.inl ⟨by rfl, ?_⟩) (by assumption) ?_
  rotate_left
  · (intro w hSw; (try dsimp only at hSw); first | (go_simp; done) | (go_simp; with_reducible rfl))
  simp only [List.set_cons_zero, List.set_cons_succ]
  refine wpAnyH_ready (rs := [1]) (by kernel_rfl) (by simp) ?_
  refine AllReadyH.cons rfl (fun K hK => ?_) AllReadyH.nil
  go_simp
  refine (implSizeOf_any (n := 6) (by exact hG0.out.1.1)).mono ?_
  rintro e w11 ⟨rfl, hb1⟩
  rw [hma'.out, show resI (some ma) = ma from rfl]
  have hG1 : Hid (GS3 A B C (.string sa) (.slice aa (kidsOf xa).length ca) (.string sb) (.slice ab (kidsOf xb).length cb) (.slice (some ⟨g8, 0, none⟩) ((kidsOf xa).length + 1) cap8) xa xb (mkT sa (kidsOf xa ++ [xb])) w11) := hG0.out.below hb1
  have hB1 : Hid (Below w0.heap.size w0 w11) := hB0.out.trans (hb1.mono hB0.out.size)
  try dsimp only
  refine hK.out _ _ ⟨cell_on hb1 hHeld.1, cell_on hb1 hHeld.2.1, cell_on hb1 hHeld.2.2.1, cell_on hb1 hHeld.2.2.2⟩ (fun hHeld => ?_)
  clear hK K
  refine wpAnyH_ready (rs := [3]) (by kernel_rfl) (by simp) ?_
  refine AllReadyH.cons rfl (fun K hK => ?_) AllReadyH.nil
  go_simp
  refine (implSizeOf_any (n := 5) (by exact hG1.out.1.2.1)).mono ?_
  rintro e w12 ⟨rfl, hb1⟩
  rw [hmb'.out, show resI (some mb) = mb from rfl]
  have hG2 : Hid (GS3 A B C (.string sa) (.slice aa (kidsOf xa).length ca) (.string sb) (.slice ab (kidsOf xb).length cb) (.slice (some ⟨g8, 0, none⟩) ((kidsOf xa).length + 1) cap8) xa xb (mkT sa (kidsOf xa ++ [xb])) w12) := hG1.out.below hb1
  have hB2 : Hid (Below w0.heap.size w0 w12) := hB1.out.trans (hb1.mono hB1.out.size)
  try dsimp only
  refine hK.out _ _ ⟨cell_on hb1 hHeld.1, cell_on hb1 hHeld.2.1, cell_on hb1 hHeld.2.2.1, cell_on hb1 hHeld.2.2.2⟩ (fun hHeld => ?_)
  clear hK K
  refine take_lit (i := 4) (d := 49) (v := ?_) rfl rfl (by kernel_rfl) (by kernel_rfl) (by kernel_rfl) (fun _ _ _ h => h) (Or.inl ⟨by rfl, ?_⟩) (by assumption) ?_
  rotate_left
  · (intro w hSw; (try dsimp only at hSw); first | (go_simp; done) | (go_simp; with_reducible rfl))
  simp only [List.set_cons_zero, List.set_cons_succ]
  refine take_lit (i := 5) (d := 6) (v := ?_) rfl rfl (by kernel_rfl) (by kernel_rfl) (by kernel_rfl) (fun _ _ _ h => h) (Or.inl ⟨by rfl, ?_⟩) (by assumption) ?_
  rotate_left
  · (intro w hSw; (try dsimp only at hSw); first | (go_simp; done) | (go_simp; with_reducible rfl))
  simp only [List.set_cons_zero, List.set_cons_succ]
  refine wpAnyH_done (by kernel_rfl) ?_ _
  generalize w12 = wy at *
  have hGy : Hid (GS3 A B C (.string sa) (.slice aa (kidsOf xa).length ca) (.string sb) (.slice ab (kidsOf xb).length cb) (.slice (some ⟨g8, 0, none⟩) ((kidsOf xa).length + 1) cap8) xa xb (mkT sa (kidsOf xa ++ [xb])) wy) := hG2
  have hBy : Hid (Below w0.heap.size w0 wy) := hB2
  clear a0 a1 b0 b1 hG0 hG1 hG2 hB0 hB1 hB2 hHeld
  obtain ⟨a0, a1, b0, b1⟩ := GSt.cells hGy.out.1
  go_wp2_with fail
  refine (implTreeText_any (n := 6) (by exact hGy.out.1.1)).mono ?_
  rintro e wx ⟨rfl, hbx⟩
  have hGx : Hid (GS3 A B C (.string sa) (.slice aa (kidsOf xa).length ca) (.string sb) (.slice ab (kidsOf xb).length cb) (.slice (some ⟨g8, 0, none⟩) ((kidsOf xa).length + 1) cap8) xa xb (mkT sa (kidsOf xa ++ [xb])) wx) := hGy.out.below hbx
  have hBx : Hid (Below w0.heap.size w0 wx) := hBy.out.trans (hbx.mono hBy.out.size)
  clear a0 a1 b0 b1 hbx hGy hBy
  obtain ⟨a0, a1, _, _⟩ := GSt.cells hGx.out.1
  obtain ⟨b0, b1, c0, c1⟩ := GS3.cells hGx.out
  have hs6 : sa.size ≤ 6 := by have := htl.out; rw [hsg.out, ba_len] at this; exact this
  by_cases hgt : 30 < ma + mb
  · have hsc : Hid (szD 6 (mkT sa (kidsOf xa ++ [xb])) 30 = none) := by show _ = _; rw [graft_size hsg.out hma'.out hmb'.out, if_neg (by omega)]
    generalize textR 6 xa = tA at *
    go_wp2_with fail
    refine (implTreeOk_any (n := 6) (by exact hGx.out.2.1)).mono ?_
    rintro e wv ⟨rfl, hbv⟩
    rw [hsc.out, show okB none = false from rfl]
    have hGv : Hid (GS3 A B C (.string sa) (.slice aa (kidsOf xa).length ca) (.string sb) (.slice ab (kidsOf xb).length cb) (.slice (some ⟨g8, 0, none⟩) ((kidsOf xa).length + 1) cap8) xa xb (mkT sa (kidsOf xa ++ [xb])) wv) := hGx.out.below hbv
    have hBv : Hid (Below w0.heap.size w0 wv) := hBx.out.trans (hbv.mono hBx.out.size)
    clear a0 a1 b0 b1 c0 c1 hbv
    obtain ⟨b0, b1, c0, c1⟩ := GS3.cells hGv.out
    go_wp2_with fail
    refine (implSizeOf_any (n := 6) (by exact hGv.out.2.1)).mono ?_
    rintro e wu ⟨rfl, hbu⟩
    rw [hsc.out, show resI none = -1 from rfl]
    go_wp2_with fail
    go_ret
    exact ⟨rfl, hBv.out.trans (hbu.mono hBv.out.size)⟩
  · have hsc : Hid (szD 6 (mkT sa (kidsOf xa ++ [xb])) 30 = some (ma + mb)) := by show _ = _; rw [graft_size hsg.out hma'.out hmb'.out, if_pos (by omega)]
    obtain ⟨L, z1, z2, z3, z4⟩ := graft_texts hsg.out hma'.out hmb'.out (by omega)
    have hen : ((⟨#[60, 47]⟩ : ByteArray) ++ sa ++ ⟨#[62]⟩).size ≤ 9 := by rw [ba_size, ba_size]; show 2 + sa.size + 1 ≤ 9; omega
    generalize hA : textR 6 xa = tA at *
    generalize hTB : textR 5 xb = tB at *
    generalize hTC : textR 6 (mkT sa (kidsOf xa ++ [xb])) = tC at *
    have hTB' : Hid (textR 5 xb = tB) := hTB
    have hTC' : Hid (textR 6 (mkT sa (kidsOf xa ++ [xb])) = tC) := hTC
    clear hA hTB hTC
    go_wp2_with fail
    generalize ((⟨#[60, 47]⟩ : ByteArray) ++ sa ++ ⟨#[62]⟩) = en at *
    have hsub : IntKind.i64.wrap ((tA.size : Int) - (en.size : Int)) = (L : Int) := by rw [IntKind.wrap_i64]; omega
    have hsl : ∀ w, (Instr.slice 9 (.string tA) none (some (.int .i64 (L : Int))) none).run Try.prog w = .ok (.string (tA.extract 0 L)) w := d_slice_to tA L (by omega)
    have hslz : (tA.extract 0 L).size = L := by rw [ByteArray.size_extract]; omega
    generalize tA.extract 0 L = sl at *
    have hL : L ≤ 510 := by omega
    have hd1 : ¬ 9223372036854775807 < sl.size + tB.size := by omega
    have hd2 : ¬ 9223372036854775807 < (sl ++ tB).size + en.size := by rw [ba_size]; omega
    have hd3 : ¬ 9223372036854775807 < sl.size + tB.size + en.size := by omega
    have hd4 : ¬ 9223372036854775807 < L + tB.size := by omega
    have hd5 : ¬ 9223372036854775807 < L + tB.size + en.size := by omega
    have z1' : Hid (tA.size = L + en.size) := z1
    clear z1 a0 a1 b0 b1 c0 c1
    have hG0 : Hid (GS3 A B C (.string sa) (.slice aa (kidsOf xa).length ca) (.string sb) (.slice ab (kidsOf xb).length cb) (.slice (some ⟨g8, 0, none⟩) ((kidsOf xa).length + 1) cap8) xa xb (mkT sa (kidsOf xa ++ [xb])) wx.drew) := hGx.out.below (Below.drew (Below.refl _ _))
    have hB0 : Hid (Below w0.heap.size w0 wx.drew) := hBx.out.drew
    obtain ⟨b0, b1, c0, c1⟩ := GS3.cells hG0.out
    refine wp_region_held_drew (S := fun w' => w'.cell? ⟨B, 0, none⟩ = some (.string sb) ∧ w'.cell? ⟨B, 1, none⟩ = some (.slice ab (kidsOf xb).length cb) ∧ w'.cell? ⟨C, 0, none⟩ = some (.string sa) ∧ w'.cell? ⟨C, 1, none⟩ = some (.slice (some ⟨g8, 0, none⟩) ((kidsOf xa).length + 1) cap8)) (by kernel_rfl) (by refine ⟨?_, ?_, ?_, ?_⟩ <;> assumption) (fun hHeld => ?_)
    refine take_lit (i := 0) (d := 66) (v := ?_) rfl rfl (by kernel_rfl) (by kernel_rfl) (by kernel_rfl) (fun _ _ _ h => h) (Or.inl ⟨by rfl, ?_⟩) (by assumption) ?_
    rotate_left
    · (intro w hSw; (try dsimp only at hSw); first | (go_simp; done) | (go_simp; with_reducible rfl))
    simp only [List.set_cons_zero, List.set_cons_succ]
    refine take_lit (i := 2) (d := 68) (v := ?_) rfl rfl (by kernel_rfl) (by kernel_rfl) (by kernel_rfl) (fun _ _ _ h => h) (Or.inl ⟨by rfl, ?_⟩) (by assumption) ?_
    rotate_left
    · (intro w hSw; (try dsimp only at hSw); first | (go_simp; done) | (go_simp; with_reducible rfl))
    simp only [List.set_cons_zero, List.set_cons_succ]
    refine wpAnyH_ready (rs := [1]) (by kernel_rfl) (by simp) ?_
    refine AllReadyH.cons rfl (fun K hK => ?_) AllReadyH.nil
    go_simp
    refine (implSizeOf_any (n := 6) (by exact hG0.out.2.1)).mono ?_
    rintro e w11 ⟨rfl, hb1⟩
    rw [hsc.out, show resI (some (ma + mb)) = ma + mb from rfl]
    have hG1 : Hid (GS3 A B C (.string sa) (.slice aa (kidsOf xa).length ca) (.string sb) (.slice ab (kidsOf xb).length cb) (.slice (some ⟨g8, 0, none⟩) ((kidsOf xa).length + 1) cap8) xa xb (mkT sa (kidsOf xa ++ [xb])) w11) := hG0.out.below hb1
    have hB1 : Hid (Below w0.heap.size w0 w11) := hB0.out.trans (hb1.mono hB0.out.size)
    try dsimp only
    refine hK.out _ _ ⟨cell_on hb1 hHeld.1, cell_on hb1 hHeld.2.1, cell_on hb1 hHeld.2.2.1, cell_on hb1 hHeld.2.2.2⟩ (fun hHeld => ?_)
    clear hK K
    refine take_lit (i := 3) (d := 69) (v := ?_) rfl rfl (by kernel_rfl) (by kernel_rfl) (by kernel_rfl) (fun _ _ _ h => h) (Or.inl ⟨by rfl, ?_⟩) (by assumption) ?_
    rotate_left
    · (intro w hSw; (try dsimp only at hSw); first | (go_simp; done) | (go_simp; with_reducible rfl))
    simp only [List.set_cons_zero, List.set_cons_succ]
    refine take_lit (i := 4) (d := 70) (v := ?_) rfl rfl (by kernel_rfl) (by kernel_rfl) (by kernel_rfl) (fun _ _ _ h => h) (Or.inl ⟨by rfl, ?_⟩) (by assumption) ?_
    rotate_left
    · (intro w hSw; (try dsimp only at hSw); first | (go_simp; done) | (go_simp; with_reducible rfl))
    simp only [List.set_cons_zero, List.set_cons_succ]
    refine take_lit (i := 5) (d := 71) (v := ?_) rfl rfl (by kernel_rfl) (by kernel_rfl) (by kernel_rfl) (fun _ _ _ h => h) (Or.inl ⟨by rfl, ?_⟩) (by assumption) ?_
    rotate_left
    · (intro w hSw; (try dsimp only at hSw); first | (go_simp; done) | (go_simp; with_reducible rfl))
    simp only [List.set_cons_zero, List.set_cons_succ]
    refine take_lit (i := 7) (d := 73) (v := ?_) rfl rfl (by kernel_rfl) (by kernel_rfl) (by kernel_rfl) (fun _ _ _ h => h) (Or.inl ⟨by rfl, ?_⟩) (by assumption) ?_
    rotate_left
    · (intro w hSw; (try dsimp only at hSw); first | (go_simp; done) | (go_simp; with_reducible rfl))
    simp only [List.set_cons_zero, List.set_cons_succ]
    refine take_lit (i := 8) (d := 74) (v := ?_) rfl rfl (by kernel_rfl) (by kernel_rfl) (by kernel_rfl) (fun _ _ _ h => h) (Or.inl ⟨by rfl, ?_⟩) (by assumption) ?_
    rotate_left
    · (intro w hSw; (try dsimp only at hSw); first | (go_simp; done) | (go_simp; with_reducible rfl))
    simp only [List.set_cons_zero, List.set_cons_succ]
    refine take_lit (i := 9) (d := 75) (v := ?_) rfl rfl (by kernel_rfl) (by kernel_rfl) (by kernel_rfl) (fun _ _ _ h => h) (Or.inl ⟨by rfl, ?_⟩) (by assumption) ?_
    rotate_left
    · (intro w hSw; (try dsimp only at hSw); first | (go_simp; done) | (go_simp; with_reducible rfl))
    simp only [List.set_cons_zero, List.set_cons_succ]
    refine take_lit (i := 10) (d := 76) (v := ?_) rfl rfl (by kernel_rfl) (by kernel_rfl) (by kernel_rfl) (fun _ _ _ h => h) (Or.inl ⟨by rfl, ?_⟩) (by assumption) ?_
    rotate_left
    · (intro w hSw; (try dsimp only at hSw); first | (go_simp; done) | (go_simp; with_reducible rfl))
    simp only [List.set_cons_zero, List.set_cons_succ]
    refine take_lit (i := 11) (d := 77) (v := ?_) rfl rfl (by kernel_rfl) (by kernel_rfl) (by kernel_rfl) (fun _ _ _ h => h) (Or.inl ⟨by rfl, ?_⟩) (by assumption) ?_
    rotate_left
    · (intro w hSw; (try dsimp only at hSw); first | (go_simp; done) | (go_simp; with_reducible rfl))
    simp only [List.set_cons_zero, List.set_cons_succ]
    refine take_lit (i := 12) (d := 78) (v := ?_) rfl rfl (by kernel_rfl) (by kernel_rfl) (by kernel_rfl) (fun _ _ _ h => h) (Or.inl ⟨by rfl, ?_⟩) (by assumption) ?_
    rotate_left
    · (intro w hSw; (try dsimp only at hSw); first | (go_simp; done) | (go_simp; with_reducible rfl))
    simp only [List.set_cons_zero, List.set_cons_succ]
    refine take_lit (i := 13) (d := 79) (v := ?_) rfl rfl (by kernel_rfl) (by kernel_rfl) (by kernel_rfl) (fun _ _ _ h => h) (Or.inl ⟨by rfl, ?_⟩) (by assumption) ?_
    rotate_left
    · (intro w hSw; (try dsimp only at hSw); first | (go_simp; done) | (go_simp; with_reducible rfl))
    simp only [List.set_cons_zero, List.set_cons_succ]
    refine take_lit (i := 14) (d := 80) (v := ?_) rfl rfl (by kernel_rfl) (by kernel_rfl) (by kernel_rfl) (fun _ _ _ h => h) (Or.inl ⟨by rfl, ?_⟩) (by assumption) ?_
    rotate_left
    · (intro w hSw; (try dsimp only at hSw); first | (go_simp; done) | (go_simp; with_reducible rfl))
    simp only [List.set_cons_zero, List.set_cons_succ]
    refine take_lit (i := 17) (d := 83) (v := ?_) rfl rfl (by kernel_rfl) (by kernel_rfl) (by kernel_rfl) (fun _ _ _ h => h) (Or.inl ⟨by rfl, ?_⟩) (by assumption) ?_
    rotate_left
    · (intro w hSw; (try dsimp only at hSw); first | (go_simp; done) | (go_simp; with_reducible rfl))
    simp only [List.set_cons_zero, List.set_cons_succ]
    refine wpAnyH_ready (rs := [6]) (by kernel_rfl) (by simp) ?_
    refine AllReadyH.cons rfl (fun K hK => ?_) AllReadyH.nil
    go_simp
    refine (implTreeText_any (n := 6) (by exact hG1.out.2.1)).mono ?_
    rintro e w12 ⟨rfl, hb1⟩
    rw [hTC'.out]
    have hG2 : Hid (GS3 A B C (.string sa) (.slice aa (kidsOf xa).length ca) (.string sb) (.slice ab (kidsOf xb).length cb) (.slice (some ⟨g8, 0, none⟩) ((kidsOf xa).length + 1) cap8) xa xb (mkT sa (kidsOf xa ++ [xb])) w12) := hG1.out.below hb1
    have hB2 : Hid (Below w0.heap.size w0 w12) := hB1.out.trans (hb1.mono hB1.out.size)
    try dsimp only
    refine hK.out _ _ ⟨cell_on hb1 hHeld.1, cell_on hb1 hHeld.2.1, cell_on hb1 hHeld.2.2.1, cell_on hb1 hHeld.2.2.2⟩ (fun hHeld => ?_)
    clear hK K
    refine wpAnyH_ready (rs := [15]) (by kernel_rfl) (by simp) ?_
    refine AllReadyH.cons rfl (fun K hK => ?_) AllReadyH.nil
    go_simp
    refine (implTreeText_any (n := 5) (by exact hG2.out.1.2.1)).mono ?_
    rintro e w13 ⟨rfl, hb1⟩
    rw [hTB'.out]
    have hG3 : Hid (GS3 A B C (.string sa) (.slice aa (kidsOf xa).length ca) (.string sb) (.slice ab (kidsOf xb).length cb) (.slice (some ⟨g8, 0, none⟩) ((kidsOf xa).length + 1) cap8) xa xb (mkT sa (kidsOf xa ++ [xb])) w13) := hG2.out.below hb1
    have hB3 : Hid (Below w0.heap.size w0 w13) := hB2.out.trans (hb1.mono hB2.out.size)
    try dsimp only
    refine hK.out _ _ ⟨cell_on hb1 hHeld.1, cell_on hb1 hHeld.2.1, cell_on hb1 hHeld.2.2.1, cell_on hb1 hHeld.2.2.2⟩ (fun hHeld => ?_)
    clear hK K
    refine take_lit (i := 16) (d := 82) (v := ?_) rfl rfl (by kernel_rfl) (by kernel_rfl) (by kernel_rfl) (fun _ _ _ h => h) (Or.inl ⟨by rfl, ?_⟩) (by assumption) ?_
    rotate_left
    · (intro w hSw; (try dsimp only at hSw); first | (go_simp; done) | (go_simp; with_reducible rfl))
    simp only [List.set_cons_zero, List.set_cons_succ]
    refine take_lit (i := 18) (d := 84) (v := ?_) rfl rfl (by kernel_rfl) (by kernel_rfl) (by kernel_rfl) (fun _ _ _ h => h) (Or.inl ⟨by rfl, ?_⟩) (by assumption) ?_
    rotate_left
    · (intro w hSw; (try dsimp only at hSw); first | (go_simp; done) | (go_simp; with_reducible rfl))
    simp only [List.set_cons_zero, List.set_cons_succ]
    refine take_lit (i := 19) (d := 85) (v := ?_) rfl rfl (by kernel_rfl) (by kernel_rfl) (by kernel_rfl) (fun _ _ _ h => h) (Or.inl ⟨by rfl, ?_⟩) (by assumption) ?_
    rotate_left
    · (intro w hSw; (try dsimp only at hSw); first | (go_simp; done) | (go_simp; with_reducible rfl))
    simp only [List.set_cons_zero, List.set_cons_succ]
    refine take_lit (i := 20) (d := 86) (v := ?_) rfl rfl (by kernel_rfl) (by kernel_rfl) (by kernel_rfl) (fun _ _ _ h => h) (Or.inl ⟨by rfl, ?_⟩) (by assumption) ?_
    rotate_left
    · (intro w hSw; (try dsimp only at hSw); first | (go_simp; done) | (go_simp; with_reducible rfl))
    simp only [List.set_cons_zero, List.set_cons_succ]
    refine take_lit (i := 21) (d := 2) (v := ?_) rfl rfl (by kernel_rfl) (by kernel_rfl) (by kernel_rfl) (fun _ _ _ h => h) (Or.inl ⟨by rfl, ?_⟩) (by assumption) ?_
    rotate_left
    · (intro w hSw; (try dsimp only at hSw); first | (go_simp; done) | (go_simp; with_reducible rfl))
    simp only [List.set_cons_zero, List.set_cons_succ]
    refine wpAnyH_done (by kernel_rfl) ?_ _
    go_wp2_with fail
    go_ret
    exact ⟨by simp, hB3.out⟩
end Go.Proofs.Ytapjplecdfemeaa.fnGrafted
