/- What DrawDiffed tells: two trees. -/
import Derived.Test.YtndffcogddefiaaEdDraws
import Derived.Test.YtndffcogddefiaaEdDAll
import Derived.Deep.DeepCutAuto
namespace Go.Proofs.Ytndffcogddefiaa
open Go.RowKit Go.Deep
/-- a draw of two trees, under way -/
structure DD (w : World) (g : Nat) (a : Option Addr) (n cap gt lo1 : Nat) (d : TD) (aT : Option Addr) (cT : Nat) (wx : World) : Prop where
  bR : Box wx w.heap.size [.string ⟨#[]⟩, .slice none 0 0] 26
  bS : Box wx (w.heap.size + 1) [.string ⟨#[]⟩, .slice none 0 0] 26
  bT : Box wx gt [.string (strT d), .slice aT (kidsOf d).length cT] 26
  ht : Stab (fun b => b < lo1 ∨ gt ≤ b) wx (fun W => TreeAt W lo1 4 (.string (strT d)) (.slice aT (kidsOf d).length cT) d)
  rd : RdAt wx g a n cap
  hb : Below w.heap.size w wx
  hg : w.heap.size + 1 < g ∧ g < lo1 ∧ g < gt ∧ lo1 ≤ gt + 1
theorem DD.below {w : World} {g : Nat} {a : Option Addr} {n cap gt lo1 : Nat} {d : TD} {aT : Option Addr} {cT : Nat} {wx W : World} (h : DD w g a n cap gt lo1 d aT cT wx) (q : Below wx.heap.size wx W) : DD w g a n cap gt lo1 d aT cT W :=
  ⟨h.bR.below q h.bR.lt, h.bS.below q h.bS.lt, h.bT.below q h.bT.lt, h.ht.below q, h.rd.below q, h.hb.trans (q.mono h.hb.size), h.hg⟩
theorem DD.grow {w : World} {g : Nat} {a : Option Addr} {n cap gt lo1 : Nat} {d : TD} {aT : Option Addr} {cT : Nat} {wx W : World} (h : DD w g a n cap gt lo1 d aT cT wx) (hr : RdAt W g a n cap) (q : wx.grownBy W (some g)) : DD w g a n cap gt lo1 d aT cT W := by
  have h0 := h.hg
  exact ⟨box_other h.bR (by omega) q, box_other h.bS (by omega) q, box_other h.bT (by omega) q, h.ht.grow q (Or.inl h0.2.1), hr, below_grown h.hb (by omega) q, h0⟩
theorem DD.put {w : World} {g : Nat} {a : Option Addr} {n cap gt lo1 : Nat} {d : TD} {aT : Option Addr} {cT : Nat} {wx : World} (h : DD w g a n cap gt lo1 d aT cT wx) {E : Nat} {cs : List Value} (hE : gt < E) : DD w g a n cap gt lo1 d aT cT (putCells wx E 0 cs) :=
  ⟨(putCells_other _ _ _ _ _ (by have := h.hg; omega)).trans h.bR, (putCells_other _ _ _ _ _ (by have := h.hg; omega)).trans h.bS, (putCells_other _ _ _ _ _ (by omega)).trans h.bT, h.ht.puts (Or.inr (Nat.le_of_lt hE)) _, h.rd.keep (fun b hb => putCells_other _ _ _ _ _ (by have := h.hg; omega)), putCells_below cs _ _ _ _ _ (by have := h.hg; omega) h.hb, h.hg⟩
theorem one_box {W : World} {b g1 : Nat} {cs ds : List Value} {T : TypeId} (h : Box W b ds T) (h1 : b ≠ g1) (_ : b ≠ g1) : Box (putCells W g1 0 cs) b ds T := (putCells_other _ _ _ _ _ h1).trans h
theorem two_box {W : World} {b g1 g2 : Nat} {cs es ds : List Value} {T : TypeId} (h : Box W b ds T) (h1 : b ≠ g1) (h2 : b ≠ g2) : Box (putCells (putCells W g1 0 cs) g2 0 es) b ds T := (putCells_other _ _ _ _ _ h2).trans ((putCells_other _ _ _ _ _ h1).trans h)
theorem tree0 {w : World} {lo n : Nat} {t k : Value} {d : TD} (h : TreeAt w lo n t k d) : TreeAt w 0 n t k d := TreeAt.keep (Nat.le_refl _) (Nat.zero_le _) (fun _ _ _ => rfl) n _ _ _ h
/-- two trees, drawn -/
def DrawnD (w' : World) (e : Ending) : Prop := ∃ (n : Nat) (t k t2 k2 : Value) (x y : TD), e = .returned (.tuple #[.agg #[t, k], .agg #[t2, k2]]) ∧ TreeAt w' 0 n t k x ∧ TreeAt w' 0 n t2 k2 y
theorem tree_stabL {S : Nat → Prop} {u : World} {lo n : Nat} {t k : Value} {x : TD} (h : TreeAt u lo n t k x) (hS : ∀ b, lo ≤ b → b < u.heap.size → ¬ S b) : Stab S u (fun W => TreeAt W lo n t k x) := fun _ h1 h2 => TreeAt.keep h1 (Nat.le_refl _) (fun b q1 q2 => h2 b q2 (hS b q1 q2)) n _ _ _ h
theorem two_puts {W : World} {lo n g1 g2 : Nat} {t k : Value} {d : TD} {cs ds : List Value} (h : TreeAt W lo n t k d) (h1 : g1 < lo) (h2 : g2 < lo) : TreeAt (putCells (putCells W g1 0 cs) g2 0 ds) 0 n t k d :=
  TreeAt.keep (by rw [putCells_size, putCells_size]; exact Nat.le_refl _) (Nat.zero_le _) (fun b q1 _ => (putCells_other _ _ _ _ _ (by omega)).trans (putCells_other _ _ _ _ _ (by omega))) n _ _ _ h
set_option maxRecDepth 100000 in
set_option maxHeartbeats 8000000 in
theorem drawDiffed_any {w : World} {a : Option Addr} {n cap : Nat} (h : CodeAt w a n) :
    Calls Try.prog 21 #[.slice a n cap] w fun e w' => DrawnD w' e ∧ Below w.heap.size w w' := by
  have h' : Hid (CodeAt w a n) := h
  clear h
  have hb0 : Hid (Below w.heap.size w ((w.alloc (.cells #[.string ⟨#[]⟩, .slice none 0 0] 26)).alloc (.cells #[.string ⟨#[]⟩, .slice none 0 0] 26))) := ((Below.refl _ _).alloc (Nat.le_refl _) _).alloc (by simp) _
  have bR0 : Hid (Box ((w.alloc (.cells #[.string ⟨#[]⟩, .slice none 0 0] 26)).alloc (.cells #[.string ⟨#[]⟩, .slice none 0 0] 26)) w.heap.size [.string ⟨#[]⟩, .slice none 0 0] 26) := (Box.new w [.string ⟨#[]⟩, .slice none 0 0] 26).alloc _
  have bS0 : Hid (Box ((w.alloc (.cells #[.string ⟨#[]⟩, .slice none 0 0] 26)).alloc (.cells #[.string ⟨#[]⟩, .slice none 0 0] 26)) (w.heap.size + 1) [.string ⟨#[]⟩, .slice none 0 0] 26) := by have q := Box.new (w.alloc (.cells #[.string ⟨#[]⟩, .slice none 0 0] 26)) [.string ⟨#[]⟩, .slice none 0 0] 26; rw [World.size_alloc] at q; exact q
  go_enter Try.func21, Try.ntmps21
  go_wp2_with fail
  refine (open_any (CodeAt.below h'.out hb0.out)).mono ?_
  rintro e w1 ⟨g, rfl, hg, hr1, hb1⟩
  have hr1' : Hid (RdAt w1 g a n cap) := hr1
  have hg' : w.heap.size + 2 ≤ g := by simpa using hg
  have hB1 : Hid (Below w.heap.size w w1) := hb0.out.trans (hb1.mono hb0.out.size)
  have bR1 : Hid (Box w1 w.heap.size [.string ⟨#[]⟩, .slice none 0 0] 26) := bR0.out.below hb1 bR0.out.lt
  have bS1 : Hid (Box w1 (w.heap.size + 1) [.string ⟨#[]⟩, .slice none 0 0] 26) := bS0.out.below hb1 bS0.out.lt
  have hlt1 := hr1.lt
  clear hr1 hb1 hg bR0 bS0 hb0
  go_wp2_with fail
  refine (drT_all 4 (by omega) (by omega) w1 g a n cap 1 hr1'.out (by omega)).mono ?_
  rintro e w2 ⟨cs, d, fs, rfl, hok, hnd, hlo, hr2, hg2⟩
  have hB2 : Hid (Below w.heap.size w w2) := below_grown hB1.out (by omega) hg2
  have bR2 : Hid (Box w2 w.heap.size [.string ⟨#[]⟩, .slice none 0 0] 26) := box_other bR1.out (by omega) hg2
  have bS2 : Hid (Box w2 (w.heap.size + 1) [.string ⟨#[]⟩, .slice none 0 0] 26) := box_other bS1.out (by omega) hg2
  have hr2' : Hid (RdAt w2 g a n cap) := hr2
  obtain ⟨t0, k0, e, q⟩ := TreeOwn_at (lo := w1.heap.size + 1) 4 _ _ _ _ hok hlo
  obtain ⟨rfl, _⟩ := q.tag
  obtain ⟨_, aT, cT, rfl⟩ := q.form
  subst e
  have ht2 : Hid (TreeAt w2 (w1.heap.size + 1) 4 (.string (strT d)) (.slice aT (kidsOf d).length cT) d) := q
  have hz2 := hg2.size
  have hz1 : g < w2.heap.size := by omega
  clear hok hnd hlo hr2 hg2 q
  have hbT : Below w2.heap.size w2 (w2.alloc (.cells #[.string (strT d), .slice aT (kidsOf d).length cT] 26)) := (Below.refl _ _).alloc (Nat.le_refl _) _
  have hA : Hid (DD w g a n cap w2.heap.size (w1.heap.size + 1) d aT cT (w2.alloc (.cells #[.string (strT d), .slice aT (kidsOf d).length cT] 26))) := ⟨bR2.out.alloc _, bS2.out.alloc _, Box.new w2 _ _, (tree_stabL ht2.out (fun b q1 q2 q3 => by omega)).below hbT, hr2'.out.below hbT, hB2.out.trans (hbT.mono hB2.out.size), by omega⟩
  clear hbT ht2 hr2' bR2 bS2 hB2 bR1 bS1 hB1 hr1' h'
  go_upto_region 3 with fail
  generalize (w2.alloc (.cells #[.string (strT d), .slice aT (kidsOf d).length cT] 26)) = wa at hA ⊢
  generalize w1.heap.size + 1 = lo1 at hA
  generalize w2.heap.size = gt at hA ⊢
  go_wp2_with fail
  refine (once_any hA.out.rd 3 (by omega) (by omega)).mono ?_
  rintro e w3 ⟨v, rfl, hr3, hg3⟩
  have hA3 : Hid (DD w g a n cap gt lo1 d aT cT w3) := hA.out.grow hr3 hg3
  clear hr3 hg3 hA
  cases v
  · skip
    go_upto_region 7 with fail
    have hAd : Hid (DD w g a n cap gt lo1 d aT cT (World.drew w3)) := hA3.out.below (Below.drew (Below.refl _ _))
    refine wp_region_held_drew (S := fun w' => w'.cell? ⟨gt, 0, none⟩ = some (.string (strT d)) ∧ w'.cell? ⟨gt, 1, none⟩ = some (.slice aT (kidsOf d).length cT)) (by kernel_rfl) ⟨hA3.out.bT.cell 0 rfl, hA3.out.bT.cell 1 rfl⟩ (fun hHeld => ?_)
    refine tq (i := 0) (d := 25) ?_
    simp only [sz, ss]
    refine tq (i := 1) (d := 26) ?_
    simp only [sz, ss]
    refine wpAnyH_ready (rs := [2]) (by kernel_rfl) (by simp) ?_
    refine AllReadyH.cons rfl (fun K hK => ?_) AllReadyH.nil
    go_simp
    refine (drT_all 4 (by omega) (by omega) _ g a n cap 1 hAd.out.rd (by omega)).mono ?_
    rintro e w6 ⟨cs6, x, fs6, rfl, hok, hnd, hlo, hr6, hg6⟩
    have hA6 : Hid (DD w g a n cap gt lo1 d aT cT w6) := hAd.out.grow hr6 hg6
    obtain ⟨t6, k6, e6, q6⟩ := TreeOwn_at (lo := lo1) 4 _ _ _ _ hok (fun b hb => by have := hlo b hb; have := hAd.out.bT.lt; have := hAd.out.hg; omega)
    obtain ⟨rfl, _⟩ := q6.tag
    obtain ⟨_, aX, cX, rfl⟩ := q6.form
    subst e6
    have hX6 : Hid (TreeAt w6 lo1 4 (.string (strT x)) (.slice aX (kidsOf x).length cX) x) := q6
    clear hok hnd hlo hr6 hg6 q6
    refine hK.out _ _ ⟨hA6.out.bT.cell 0 rfl, hA6.out.bT.cell 1 rfl⟩ (fun hHeld => ?_)
    clear hK K
    refine wpAnyH_ready (rs := [3]) (by kernel_rfl) (by simp) ?_
    refine AllReadyH.cons rfl (fun K hK => ?_) AllReadyH.nil
    have r0 := hA6.out.bR.cell 0 rfl
    have r1 := hA6.out.bR.cell 1 rfl
    have fR := hA6.out.bR.unfrozen
    have hgo := hA6.out.hg
    have bR5 : Hid (Box (putCells w6 w.heap.size 0 [.string (strT d), .slice aT (kidsOf d).length cT]) w.heap.size [.string (strT d), .slice aT (kidsOf d).length cT] 26) := (hA6.out.bR.set (i := 0) _).set (i := 1) _
    have bS5 : Hid (Box (putCells w6 w.heap.size 0 [.string (strT d), .slice aT (kidsOf d).length cT]) (w.heap.size + 1) [.string ⟨#[]⟩, .slice none 0 0] 26) := (putCells_other _ _ _ _ _ (by omega)).trans hA6.out.bS
    go_simp
    refine hK.out _ _ ⟨((one_box (g1 := w.heap.size) (cs := [.string (strT d), .slice aT (kidsOf d).length cT]) hA6.out.bT (by have := hA6.out.hg; omega) (by have := hA6.out.hg; omega)).cell 0 rfl), ((one_box (g1 := w.heap.size) (cs := [.string (strT d), .slice aT (kidsOf d).length cT]) hA6.out.bT (by have := hA6.out.hg; omega) (by have := hA6.out.hg; omega)).cell 1 rfl)⟩ (fun hHeld => ?_)
    clear hK K
    refine wpAnyH_ready (rs := [4]) (by kernel_rfl) (by simp) ?_
    refine AllReadyH.cons rfl (fun K hK => ?_) AllReadyH.nil
    have v0 := hA6.out.bS.cell 0 rfl
    have v1 := hA6.out.bS.cell 1 rfl
    have fS := hA6.out.bS.unfrozen
    have bR6 : Hid (Box (putCells (putCells w6 w.heap.size 0 [.string (strT d), .slice aT (kidsOf d).length cT]) (w.heap.size + 1) 0 [.string (strT x), .slice aX (kidsOf x).length cX]) w.heap.size [.string (strT d), .slice aT (kidsOf d).length cT] 26) := (putCells_other _ _ _ _ _ (by omega)).trans bR5.out
    have bS6 : Hid (Box (putCells (putCells w6 w.heap.size 0 [.string (strT d), .slice aT (kidsOf d).length cT]) (w.heap.size + 1) 0 [.string (strT x), .slice aX (kidsOf x).length cX]) (w.heap.size + 1) [.string (strT x), .slice aX (kidsOf x).length cX] 26) := (bS5.out.set (i := 0) _).set (i := 1) _
    go_simp
    refine hK.out _ _ ⟨((two_box (g1 := w.heap.size) (cs := [.string (strT d), .slice aT (kidsOf d).length cT]) (g2 := w.heap.size + 1) (es := [.string (strT x), .slice aX (kidsOf x).length cX]) hA6.out.bT (by have := hA6.out.hg; omega) (by have := hA6.out.hg; omega)).cell 0 rfl), ((two_box (g1 := w.heap.size) (cs := [.string (strT d), .slice aT (kidsOf d).length cT]) (g2 := w.heap.size + 1) (es := [.string (strT x), .slice aX (kidsOf x).length cX]) hA6.out.bT (by have := hA6.out.hg; omega) (by have := hA6.out.hg; omega)).cell 1 rfl)⟩ (fun hHeld => ?_)
    clear hK K
    refine wpAnyH_done (by kernel_rfl) ?_ _
    go_wp2_with fail
    have s0 := bR6.out.cell 0 rfl
    have s1 := bR6.out.cell 1 rfl
    have q0 := bS6.out.cell 0 rfl
    have q1 := bS6.out.cell 1 rfl
    exact bodyPost_ret (v := .tuple #[.agg (List.toArray [.string (strT d), .slice aT (kidsOf d).length cT]), .agg (List.toArray [.string (strT x), .slice aX (kidsOf x).length cX])]) (by simp only [putCells] at s0 s1 q0 q1; simp [results, Try.results21, go_sem, s0, s1, q0, q1]) rfl ⟨⟨4, _, _, _, _, _, _, rfl, TreeAt.mono (by omega) (tree0 ((hA6.out.ht.puts (g := w.heap.size) (o := 0) (Or.inl (by omega)) [.string (strT d), .slice aT (kidsOf d).length cT]).puts (g := w.heap.size + 1) (o := 0) (Or.inl (by omega)) [.string (strT x), .slice aX (kidsOf x).length cX]).here), TreeAt.mono (by omega) (two_puts (g1 := w.heap.size) (g2 := w.heap.size + 1) (cs := [.string (strT d), .slice aT (kidsOf d).length cT]) (ds := [.string (strT x), .slice aX (kidsOf x).length cX]) hX6.out (by omega) (by omega))⟩, putCells_below [.string (strT x), .slice aX (kidsOf x).length cX] _ _ _ (w.heap.size + 1) 0 (by omega) (putCells_below [.string (strT d), .slice aT (kidsOf d).length cT] _ _ _ w.heap.size 0 (Nat.le_refl _) hA6.out.hb)⟩
  · go_upto_region 4 with fail
    go_cut [6, 7] (fun s6 s7 wx => ∃ (gB nB : Nat) (o : Option TD) (aB : Option Addr) (cB : Nat), s6 = .pointer (some ⟨gB, 0, none⟩) ∧ s7 = .bool o.isSome ∧ gt < gB ∧ Hid (DD w g a n cap gt lo1 d aT cT wx) ∧ Hid (Box wx gB [.string (strT (resTd o)), .slice aB (kidsOf (resTd o)).length cB] 26) ∧ Hid (TreeAt wx lo1 nB (.string (strT (resTd o))) (.slice aB (kidsOf (resTd o)).length cB) (resTd o)))
    case first =>
      have hAd : Hid (DD w g a n cap gt lo1 d aT cT w3.drew) := hA3.out.below (Below.drew (Below.refl _ _))
      refine wp_region_held_drew (S := fun w' => w'.cell? ⟨gt, 0, none⟩ = some (.string (strT d)) ∧ w'.cell? ⟨gt, 1, none⟩ = some (.slice aT (kidsOf d).length cT)) (by kernel_rfl) ⟨hA3.out.bT.cell 0 rfl, hA3.out.bT.cell 1 rfl⟩ (fun hHeld => ?_)
      refine tq (i := 0) (d := 15) ?_
      simp only [sz, ss]
      refine tq (i := 1) (d := 16) ?_
      simp only [sz, ss]
      refine tq (i := 2) (d := 17) ?_
      simp only [sz, ss]
      refine wpAnyH_ready (rs := [3, 8]) (by kernel_rfl) (by simp) ?_
      refine (AllReadyH.cons rfl (fun K hK => ?_) (AllReadyH.cons rfl (fun K hK => ?_) AllReadyH.nil))
      · go_simp
        refine (edit_any (by exact hAd.out.rd) (by exact hAd.out.ht.here) (by have := hAd.out.hg; omega) (by omega)).mono ?_
        rintro e w4 ⟨⟨cs4, y, rfl, hE0, hl0⟩, hr4, hg4⟩
        obtain ⟨ap, cp, a9, c9, rfl, _, _, _⟩ := hE0.here.form
        have hA_1 : Hid (DD w g a n cap gt lo1 d aT cT w4) := hAd.out.grow hr4 hg4
        have hE_1 : Hid (EditAt 4 w4 0 [.int .i64 y.vKind, .slice ap y.vPath.length cp, .string y.vTag, .string (strT y.vTree), .slice a9 (kidsOf y.vTree).length c9] y) := hE0.here
        have lz4 := hg4.size
        clear hE0 hl0 hr4 hg4
        refine hK.out _ _ ⟨hA_1.out.bT.cell 0 rfl, hA_1.out.bT.cell 1 rfl⟩ (fun hHeld => ?_)
        clear hK K
        refine wpAnyH_ready (rs := [4, 8]) (by kernel_rfl) (by simp) ?_
        refine (AllReadyH.cons rfl (fun K hK => ?_) (AllReadyH.cons rfl (fun K hK => ?_) AllReadyH.nil))
        · go_simp
          refine (specEdited_any (by exact tree0 hA_1.out.ht.here) (by exact hE_1.out)).mono ?_
          obtain ⟨o, ho⟩ : ∃ o, editedD d y = o := ⟨_, rfl⟩
          rw [ho]
          rintro e w5 hR
          obtain ⟨aB, cB, nB, rfl, hT5, hb5⟩ := EdR.low hR
          have hTX : Hid (TreeAt w5 (World.heap w4).size nB (.string (strT (resTd o))) (.slice aB (kidsOf (resTd o)).length cB) (resTd o)) := hT5
          have hA_2 : Hid (DD w g a n cap gt lo1 d aT cT w5) := hA_1.out.below hb5
          have hloX : lo1 ≤ (World.heap w4).size := by have := hA_1.out.hg; have := hA_1.out.bT.lt; omega
          have lz5 := hb5.size
          clear hR hT5 hb5 ho
          refine hK.out _ _ ⟨hA_2.out.bT.cell 0 rfl, hA_2.out.bT.cell 1 rfl⟩ (fun hHeld => ?_)
          clear hK K
          refine tq (i := 5) (d := 14) ?_
          simp only [sz, ss]
          refine tq (i := 6) (d := 20) ?_
          simp only [sz, ss]
          refine tq (i := 7) (d := 21) ?_
          simp only [sz, ss]
          refine wpAnyH_ready (rs := [8]) (by kernel_rfl) (by simp) ?_
          refine AllReadyH.cons rfl (fun K hK => ?_) AllReadyH.nil
          go_simp
          have hbE : Below (World.heap w5).size w5 (World.alloc w5 (.cells #[.string ⟨#[]⟩, .slice none 0 0] 26)) := (Below.refl _ _).alloc (Nat.le_refl _) _
          have hA_3 : Hid (DD w g a n cap gt lo1 d aT cT (World.alloc w5 (.cells #[.string ⟨#[]⟩, .slice none 0 0] 26))) := hA_2.out.below hbE
          obtain ⟨EE, hEE⟩ : ∃ EE, w5.heap.size = EE := ⟨_, rfl⟩
          have bX_3 : Hid (Box (World.alloc w5 (.cells #[.string ⟨#[]⟩, .slice none 0 0] 26)) EE [.string ⟨#[]⟩, .slice none 0 0] 26) := by rw [← hEE]; exact Box.new w5 _ _
          have lE : gt < EE := by rw [← hEE]; have := hA_2.out.bT.lt; exact this
          have hEEh : Hid (w5.heap.size = EE) := hEE
          clear hEE hbE
          refine hK.out _ _ ⟨hA_3.out.bT.cell 0 rfl, hA_3.out.bT.cell 1 rfl⟩ (fun hHeld => ?_)
          clear hK K
          refine wpAnyH_ready (rs := [9]) (by kernel_rfl) (by simp) ?_
          refine AllReadyH.cons rfl (fun K hK => ?_) AllReadyH.nil
          go_simp
          have hbF : Below (World.heap w5).size w5 (World.alloc w5 (.cells #[.string (strT (resTd o)), .slice aB (kidsOf (resTd o)).length cB] 26)) := (Below.refl _ _).alloc (Nat.le_refl _) _
          have hA_4 : Hid (DD w g a n cap gt lo1 d aT cT (World.alloc w5 (.cells #[.string (strT (resTd o)), .slice aB (kidsOf (resTd o)).length cB] 26))) := hA_2.out.below hbF
          have eEE := hEEh.out
          have bXF : Hid (Box (World.alloc w5 (.cells #[.string (strT (resTd o)), .slice aB (kidsOf (resTd o)).length cB] 26)) EE [.string (strT (resTd o)), .slice aB (kidsOf (resTd o)).length cB] 26) := by rw [← eEE]; exact Box.new w5 _ _
          have tXF : Hid (TreeAt (World.alloc w5 (.cells #[.string (strT (resTd o)), .slice aB (kidsOf (resTd o)).length cB] 26)) lo1 nB (.string (strT (resTd o))) (.slice aB (kidsOf (resTd o)).length cB) (resTd o)) := TreeAt.keep (by simp) hloX (fun b _ q2 => Below.heap_alloc _ _ _ q2) nB _ _ _ hTX.out
          clear hbF
          refine hK.out _ _ ⟨hA_4.out.bT.cell 0 rfl, hA_4.out.bT.cell 1 rfl⟩ (fun hHeld => ?_)
          clear hK K
          refine tq (i := 10) (d := 7) ?_
          simp only [sz, ss]
          refine wpAnyH_done (by kernel_rfl) ?_ _
          go_wp2_with fail
          go_meet
          exact ⟨EE, nB, o, aB, cB, by rw [← hEEh.out], rfl, lE, hA_4, bXF, tXF⟩
        · go_simp
          have hbE : Below (World.heap w4).size w4 (World.alloc w4 (.cells #[.string ⟨#[]⟩, .slice none 0 0] 26)) := (Below.refl _ _).alloc (Nat.le_refl _) _
          have hA_2 : Hid (DD w g a n cap gt lo1 d aT cT (World.alloc w4 (.cells #[.string ⟨#[]⟩, .slice none 0 0] 26))) := hA_1.out.below hbE
          obtain ⟨EE, hEE⟩ : ∃ EE, w4.heap.size = EE := ⟨_, rfl⟩
          have bX_2 : Hid (Box (World.alloc w4 (.cells #[.string ⟨#[]⟩, .slice none 0 0] 26)) EE [.string ⟨#[]⟩, .slice none 0 0] 26) := by rw [← hEE]; exact Box.new w4 _ _
          have lE : gt < EE := by rw [← hEE]; have := hA_1.out.bT.lt; exact this
          have hEEh : Hid (w4.heap.size = EE) := hEE
          have hE_2 : Hid (EditAt 4 (World.alloc w4 (.cells #[.string ⟨#[]⟩, .slice none 0 0] 26)) 0 [.int .i64 y.vKind, .slice ap y.vPath.length cp, .string y.vTag, .string (strT y.vTree), .slice a9 (kidsOf y.vTree).length c9] y) := EditAt.stays _ _ _ _ _ _ (.of_below hbE) hE_1.out
          clear hEE hbE
          refine hK.out _ _ ⟨hA_2.out.bT.cell 0 rfl, hA_2.out.bT.cell 1 rfl⟩ (fun hHeld => ?_)
          clear hK K
          refine wpAnyH_ready (rs := [4]) (by kernel_rfl) (by simp) ?_
          refine AllReadyH.cons rfl (fun K hK => ?_) AllReadyH.nil
          go_simp
          refine (specEdited_any (by exact tree0 hA_2.out.ht.here) (by exact hE_2.out)).mono ?_
          obtain ⟨o, ho⟩ : ∃ o, editedD d y = o := ⟨_, rfl⟩
          rw [ho]
          rintro e w5 hR
          obtain ⟨aB, cB, nB, rfl, hT5, hb5⟩ := EdR.low hR
          have hTX : Hid (TreeAt w5 (World.heap (World.alloc w4 (.cells #[.string ⟨#[]⟩, .slice none 0 0] 26))).size nB (.string (strT (resTd o))) (.slice aB (kidsOf (resTd o)).length cB) (resTd o)) := hT5
          have hA_3 : Hid (DD w g a n cap gt lo1 d aT cT w5) := hA_2.out.below hb5
          have hloX : lo1 ≤ (World.heap (World.alloc w4 (.cells #[.string ⟨#[]⟩, .slice none 0 0] 26))).size := by have := hA_2.out.hg; have := hA_2.out.bT.lt; omega
          have bX_3 : Hid (Box w5 EE [.string ⟨#[]⟩, .slice none 0 0] 26) := bX_2.out.below hb5 bX_2.out.lt
          have hEX : EE < (World.heap (World.alloc w4 (.cells #[.string ⟨#[]⟩, .slice none 0 0] 26))).size := bX_2.out.lt
          have lz5 := hb5.size
          clear hR hT5 hb5 ho
          refine hK.out _ _ ⟨hA_3.out.bT.cell 0 rfl, hA_3.out.bT.cell 1 rfl⟩ (fun hHeld => ?_)
          clear hK K
          refine tq (i := 5) (d := 14) ?_
          simp only [sz, ss]
          refine tq (i := 6) (d := 20) ?_
          simp only [sz, ss]
          refine tq (i := 7) (d := 21) ?_
          simp only [sz, ss]
          refine wpAnyH_ready (rs := [9]) (by kernel_rfl) (by simp) ?_
          refine AllReadyH.cons rfl (fun K hK => ?_) AllReadyH.nil
          have bE9 := bX_3.out
          rw [← hEEh.out] at bE9
          have u0_ := bE9.cell 0 rfl
          have u1_ := bE9.cell 1 rfl
          have uf_ := bE9.unfrozen
          go_simp
          have eEE := hEEh.out
          have hg9 := hA_3.out.hg
          have hA_4 : Hid (DD w g a n cap gt lo1 d aT cT (putCells w5 w4.heap.size 0 [.string (strT (resTd o)), .slice aB (kidsOf (resTd o)).length cB])) := DD.put hA_3.out (by omega)
          have bXF : Hid (Box (putCells w5 w4.heap.size 0 [.string (strT (resTd o)), .slice aB (kidsOf (resTd o)).length cB]) EE [.string (strT (resTd o)), .slice aB (kidsOf (resTd o)).length cB] 26) := by rw [eEE]; exact (bX_3.out.set (i := 0) _).set (i := 1) _
          have tXF : Hid (TreeAt (putCells w5 w4.heap.size 0 [.string (strT (resTd o)), .slice aB (kidsOf (resTd o)).length cB]) lo1 nB (.string (strT (resTd o))) (.slice aB (kidsOf (resTd o)).length cB) (resTd o)) := TreeAt.keep (by rw [putCells_size]; exact Nat.le_refl _) hloX (fun b q1 q2 => (putCells_other [.string (strT (resTd o)), .slice aB (kidsOf (resTd o)).length cB] _ _ _ _ (by rw [eEE]; omega))) nB _ _ _ hTX.out
          refine hK.out _ _ ⟨hA_4.out.bT.cell 0 rfl, hA_4.out.bT.cell 1 rfl⟩ (fun hHeld => ?_)
          clear hK K
          refine tq (i := 10) (d := 7) ?_
          simp only [sz, ss]
          refine wpAnyH_done (by kernel_rfl) ?_ _
          go_wp2_with fail
          go_meet
          exact ⟨EE, nB, o, aB, cB, by rw [← hEEh.out], rfl, lE, hA_4, bXF, tXF⟩
      · go_simp
        have hbE : Below (World.heap w3.drew).size w3.drew (World.alloc w3.drew (.cells #[.string ⟨#[]⟩, .slice none 0 0] 26)) := (Below.refl _ _).alloc (Nat.le_refl _) _
        have hA_1 : Hid (DD w g a n cap gt lo1 d aT cT (World.alloc w3.drew (.cells #[.string ⟨#[]⟩, .slice none 0 0] 26))) := hAd.out.below hbE
        obtain ⟨EE, hEE⟩ : ∃ EE, w3.heap.size = EE := ⟨_, rfl⟩
        have bX_1 : Hid (Box (World.alloc w3.drew (.cells #[.string ⟨#[]⟩, .slice none 0 0] 26)) EE [.string ⟨#[]⟩, .slice none 0 0] 26) := by rw [← hEE]; exact Box.new w3.drew _ _
        have lE : gt < EE := by rw [← hEE]; have := hAd.out.bT.lt; exact this
        have hEEh : Hid (w3.heap.size = EE) := hEE
        clear hEE hbE
        refine hK.out _ _ ⟨hA_1.out.bT.cell 0 rfl, hA_1.out.bT.cell 1 rfl⟩ (fun hHeld => ?_)
        clear hK K
        refine wpAnyH_ready (rs := [3]) (by kernel_rfl) (by simp) ?_
        refine AllReadyH.cons rfl (fun K hK => ?_) AllReadyH.nil
        go_simp
        refine (edit_any (by exact hA_1.out.rd) (by exact hA_1.out.ht.here) (by have := hA_1.out.hg; omega) (by omega)).mono ?_
        rintro e w4 ⟨⟨cs4, y, rfl, hE0, hl0⟩, hr4, hg4⟩
        obtain ⟨ap, cp, a9, c9, rfl, _, _, _⟩ := hE0.here.form
        have hA_2 : Hid (DD w g a n cap gt lo1 d aT cT w4) := hA_1.out.grow hr4 hg4
        have hE_2 : Hid (EditAt 4 w4 0 [.int .i64 y.vKind, .slice ap y.vPath.length cp, .string y.vTag, .string (strT y.vTree), .slice a9 (kidsOf y.vTree).length c9] y) := hE0.here
        have bX_2 : Hid (Box w4 EE [.string ⟨#[]⟩, .slice none 0 0] 26) := box_other bX_1.out (by have := hA_1.out.hg; have := hA_1.out.bT.lt; omega) hg4
        have lz4 := hg4.size
        clear hE0 hl0 hr4 hg4
        refine hK.out _ _ ⟨hA_2.out.bT.cell 0 rfl, hA_2.out.bT.cell 1 rfl⟩ (fun hHeld => ?_)
        clear hK K
        refine wpAnyH_ready (rs := [4]) (by kernel_rfl) (by simp) ?_
        refine AllReadyH.cons rfl (fun K hK => ?_) AllReadyH.nil
        go_simp
        refine (specEdited_any (by exact tree0 hA_2.out.ht.here) (by exact hE_2.out)).mono ?_
        obtain ⟨o, ho⟩ : ∃ o, editedD d y = o := ⟨_, rfl⟩
        rw [ho]
        rintro e w5 hR
        obtain ⟨aB, cB, nB, rfl, hT5, hb5⟩ := EdR.low hR
        have hTX : Hid (TreeAt w5 (World.heap w4).size nB (.string (strT (resTd o))) (.slice aB (kidsOf (resTd o)).length cB) (resTd o)) := hT5
        have hA_3 : Hid (DD w g a n cap gt lo1 d aT cT w5) := hA_2.out.below hb5
        have hloX : lo1 ≤ (World.heap w4).size := by have := hA_2.out.hg; have := hA_2.out.bT.lt; omega
        have bX_3 : Hid (Box w5 EE [.string ⟨#[]⟩, .slice none 0 0] 26) := bX_2.out.below hb5 bX_2.out.lt
        have hEX : EE < (World.heap w4).size := bX_2.out.lt
        have lz5 := hb5.size
        clear hR hT5 hb5 ho
        refine hK.out _ _ ⟨hA_3.out.bT.cell 0 rfl, hA_3.out.bT.cell 1 rfl⟩ (fun hHeld => ?_)
        clear hK K
        refine tq (i := 5) (d := 14) ?_
        simp only [sz, ss]
        refine tq (i := 6) (d := 20) ?_
        simp only [sz, ss]
        refine tq (i := 7) (d := 21) ?_
        simp only [sz, ss]
        refine wpAnyH_ready (rs := [9]) (by kernel_rfl) (by simp) ?_
        refine AllReadyH.cons rfl (fun K hK => ?_) AllReadyH.nil
        have bE9 := bX_3.out
        rw [← hEEh.out] at bE9
        have u0_ := bE9.cell 0 rfl
        have u1_ := bE9.cell 1 rfl
        have uf_ := bE9.unfrozen
        go_simp
        have eEE := hEEh.out
        have hg9 := hA_3.out.hg
        have hA_4 : Hid (DD w g a n cap gt lo1 d aT cT (putCells w5 w3.heap.size 0 [.string (strT (resTd o)), .slice aB (kidsOf (resTd o)).length cB])) := DD.put hA_3.out (by omega)
        have bXF : Hid (Box (putCells w5 w3.heap.size 0 [.string (strT (resTd o)), .slice aB (kidsOf (resTd o)).length cB]) EE [.string (strT (resTd o)), .slice aB (kidsOf (resTd o)).length cB] 26) := by rw [eEE]; exact (bX_3.out.set (i := 0) _).set (i := 1) _
        have tXF : Hid (TreeAt (putCells w5 w3.heap.size 0 [.string (strT (resTd o)), .slice aB (kidsOf (resTd o)).length cB]) lo1 nB (.string (strT (resTd o))) (.slice aB (kidsOf (resTd o)).length cB) (resTd o)) := TreeAt.keep (by rw [putCells_size]; exact Nat.le_refl _) hloX (fun b q1 q2 => (putCells_other [.string (strT (resTd o)), .slice aB (kidsOf (resTd o)).length cB] _ _ _ _ (by rw [eEE]; omega))) nB _ _ _ hTX.out
        refine hK.out _ _ ⟨hA_4.out.bT.cell 0 rfl, hA_4.out.bT.cell 1 rfl⟩ (fun hHeld => ?_)
        clear hK K
        refine tq (i := 10) (d := 7) ?_
        simp only [sz, ss]
        refine wpAnyH_done (by kernel_rfl) ?_ _
        go_wp2_with fail
        go_meet
        exact ⟨EE, nB, o, aB, cB, by rw [← hEEh.out], rfl, lE, hA_4, bXF, tXF⟩
    case rest =>
      obtain ⟨gB, nB, o, aB, cB, rfl, rfl, hgB, hA5, bX, tX⟩ := hcut
      rcases (by cases o.isSome <;> simp : o.isSome = false ∨ o.isSome = true) with hsb | hsb
      · rw [hsb]
        go_upto_region 7 with fail
        have hAd : Hid (DD w g a n cap gt lo1 d aT cT (World.drew wc)) := hA5.out.below (Below.drew (Below.refl _ _))
        refine wp_region_held_drew (S := fun w' => w'.cell? ⟨gt, 0, none⟩ = some (.string (strT d)) ∧ w'.cell? ⟨gt, 1, none⟩ = some (.slice aT (kidsOf d).length cT)) (by kernel_rfl) ⟨hA5.out.bT.cell 0 rfl, hA5.out.bT.cell 1 rfl⟩ (fun hHeld => ?_)
        refine tq (i := 0) (d := 25) ?_
        simp only [sz, ss]
        refine tq (i := 1) (d := 26) ?_
        simp only [sz, ss]
        refine wpAnyH_ready (rs := [2]) (by kernel_rfl) (by simp) ?_
        refine AllReadyH.cons rfl (fun K hK => ?_) AllReadyH.nil
        go_simp
        refine (drT_all 4 (by omega) (by omega) _ g a n cap 1 hAd.out.rd (by omega)).mono ?_
        rintro e w6 ⟨cs6, x, fs6, rfl, hok, hnd, hlo, hr6, hg6⟩
        have hA6 : Hid (DD w g a n cap gt lo1 d aT cT w6) := hAd.out.grow hr6 hg6
        obtain ⟨t6, k6, e6, q6⟩ := TreeOwn_at (lo := lo1) 4 _ _ _ _ hok (fun b hb => by have := hlo b hb; have := hAd.out.bT.lt; have := hAd.out.hg; omega)
        obtain ⟨rfl, _⟩ := q6.tag
        obtain ⟨_, aX, cX, rfl⟩ := q6.form
        subst e6
        have hX6 : Hid (TreeAt w6 lo1 4 (.string (strT x)) (.slice aX (kidsOf x).length cX) x) := q6
        clear hok hnd hlo hr6 hg6 q6
        refine hK.out _ _ ⟨hA6.out.bT.cell 0 rfl, hA6.out.bT.cell 1 rfl⟩ (fun hHeld => ?_)
        clear hK K
        refine wpAnyH_ready (rs := [3]) (by kernel_rfl) (by simp) ?_
        refine AllReadyH.cons rfl (fun K hK => ?_) AllReadyH.nil
        have r0 := hA6.out.bR.cell 0 rfl
        have r1 := hA6.out.bR.cell 1 rfl
        have fR := hA6.out.bR.unfrozen
        have hgo := hA6.out.hg
        have bR5 : Hid (Box (putCells w6 w.heap.size 0 [.string (strT d), .slice aT (kidsOf d).length cT]) w.heap.size [.string (strT d), .slice aT (kidsOf d).length cT] 26) := (hA6.out.bR.set (i := 0) _).set (i := 1) _
        have bS5 : Hid (Box (putCells w6 w.heap.size 0 [.string (strT d), .slice aT (kidsOf d).length cT]) (w.heap.size + 1) [.string ⟨#[]⟩, .slice none 0 0] 26) := (putCells_other _ _ _ _ _ (by omega)).trans hA6.out.bS
        go_simp
        refine hK.out _ _ ⟨((one_box (g1 := w.heap.size) (cs := [.string (strT d), .slice aT (kidsOf d).length cT]) hA6.out.bT (by have := hA6.out.hg; omega) (by have := hA6.out.hg; omega)).cell 0 rfl), ((one_box (g1 := w.heap.size) (cs := [.string (strT d), .slice aT (kidsOf d).length cT]) hA6.out.bT (by have := hA6.out.hg; omega) (by have := hA6.out.hg; omega)).cell 1 rfl)⟩ (fun hHeld => ?_)
        clear hK K
        refine wpAnyH_ready (rs := [4]) (by kernel_rfl) (by simp) ?_
        refine AllReadyH.cons rfl (fun K hK => ?_) AllReadyH.nil
        have v0 := hA6.out.bS.cell 0 rfl
        have v1 := hA6.out.bS.cell 1 rfl
        have fS := hA6.out.bS.unfrozen
        have bR6 : Hid (Box (putCells (putCells w6 w.heap.size 0 [.string (strT d), .slice aT (kidsOf d).length cT]) (w.heap.size + 1) 0 [.string (strT x), .slice aX (kidsOf x).length cX]) w.heap.size [.string (strT d), .slice aT (kidsOf d).length cT] 26) := (putCells_other _ _ _ _ _ (by omega)).trans bR5.out
        have bS6 : Hid (Box (putCells (putCells w6 w.heap.size 0 [.string (strT d), .slice aT (kidsOf d).length cT]) (w.heap.size + 1) 0 [.string (strT x), .slice aX (kidsOf x).length cX]) (w.heap.size + 1) [.string (strT x), .slice aX (kidsOf x).length cX] 26) := (bS5.out.set (i := 0) _).set (i := 1) _
        go_simp
        refine hK.out _ _ ⟨((two_box (g1 := w.heap.size) (cs := [.string (strT d), .slice aT (kidsOf d).length cT]) (g2 := w.heap.size + 1) (es := [.string (strT x), .slice aX (kidsOf x).length cX]) hA6.out.bT (by have := hA6.out.hg; omega) (by have := hA6.out.hg; omega)).cell 0 rfl), ((two_box (g1 := w.heap.size) (cs := [.string (strT d), .slice aT (kidsOf d).length cT]) (g2 := w.heap.size + 1) (es := [.string (strT x), .slice aX (kidsOf x).length cX]) hA6.out.bT (by have := hA6.out.hg; omega) (by have := hA6.out.hg; omega)).cell 1 rfl)⟩ (fun hHeld => ?_)
        clear hK K
        refine wpAnyH_done (by kernel_rfl) ?_ _
        go_wp2_with fail
        have s0 := bR6.out.cell 0 rfl
        have s1 := bR6.out.cell 1 rfl
        have q0 := bS6.out.cell 0 rfl
        have q1 := bS6.out.cell 1 rfl
        exact bodyPost_ret (v := .tuple #[.agg (List.toArray [.string (strT d), .slice aT (kidsOf d).length cT]), .agg (List.toArray [.string (strT x), .slice aX (kidsOf x).length cX])]) (by simp only [putCells] at s0 s1 q0 q1; simp [results, Try.results21, go_sem, s0, s1, q0, q1]) rfl ⟨⟨4, _, _, _, _, _, _, rfl, TreeAt.mono (by omega) (tree0 ((hA6.out.ht.puts (g := w.heap.size) (o := 0) (Or.inl (by omega)) [.string (strT d), .slice aT (kidsOf d).length cT]).puts (g := w.heap.size + 1) (o := 0) (Or.inl (by omega)) [.string (strT x), .slice aX (kidsOf x).length cX]).here), TreeAt.mono (by omega) (two_puts (g1 := w.heap.size) (g2 := w.heap.size + 1) (cs := [.string (strT d), .slice aT (kidsOf d).length cT]) (ds := [.string (strT x), .slice aX (kidsOf x).length cX]) hX6.out (by omega) (by omega))⟩, putCells_below [.string (strT x), .slice aX (kidsOf x).length cX] _ _ _ (w.heap.size + 1) 0 (by omega) (putCells_below [.string (strT d), .slice aT (kidsOf d).length cT] _ _ _ w.heap.size 0 (Nat.le_refl _) hA6.out.hb)⟩
      · rw [hsb]
        go_upto_region 6 with fail
        have hgx := hA5.out.hg
        refine wp_region_held_drew (S := fun w' => w'.cell? ⟨gt, 0, none⟩ = some (.string (strT d)) ∧ w'.cell? ⟨gt, 1, none⟩ = some (.slice aT (kidsOf d).length cT) ∧ w'.cell? ⟨gB, 0, none⟩ = some (.string (strT (resTd o))) ∧ w'.cell? ⟨gB, 1, none⟩ = some (.slice aB (kidsOf (resTd o)).length cB)) (by kernel_rfl) ⟨hA5.out.bT.cell 0 rfl, hA5.out.bT.cell 1 rfl, bX.out.cell 0 rfl, bX.out.cell 1 rfl⟩ (fun hHeld => ?_)
        refine tq (i := 0) (d := 23) ?_
        simp only [sz, ss]
        refine tq (i := 1) (d := 24) ?_
        simp only [sz, ss]
        refine wpAnyH_ready (rs := [2]) (by kernel_rfl) (by simp) ?_
        refine AllReadyH.cons rfl (fun K hK => ?_) AllReadyH.nil
        have r0 := hA5.out.bR.cell 0 rfl
        have r1 := hA5.out.bR.cell 1 rfl
        have fR := hA5.out.bR.unfrozen
        have hgo := hA5.out.hg
        have bR5 : Hid (Box (putCells wc w.heap.size 0 [.string (strT d), .slice aT (kidsOf d).length cT]) w.heap.size [.string (strT d), .slice aT (kidsOf d).length cT] 26) := (hA5.out.bR.set (i := 0) _).set (i := 1) _
        have bS5 : Hid (Box (putCells wc w.heap.size 0 [.string (strT d), .slice aT (kidsOf d).length cT]) (w.heap.size + 1) [.string ⟨#[]⟩, .slice none 0 0] 26) := (putCells_other _ _ _ _ _ (by omega)).trans hA5.out.bS
        go_simp
        refine hK.out _ _ ⟨((one_box (g1 := w.heap.size) (cs := [.string (strT d), .slice aT (kidsOf d).length cT]) hA5.out.bT (by omega) (by omega)).cell 0 rfl), ((one_box (g1 := w.heap.size) (cs := [.string (strT d), .slice aT (kidsOf d).length cT]) hA5.out.bT (by omega) (by omega)).cell 1 rfl), ((one_box (g1 := w.heap.size) (cs := [.string (strT d), .slice aT (kidsOf d).length cT]) bX.out (by omega) (by omega)).cell 0 rfl), ((one_box (g1 := w.heap.size) (cs := [.string (strT d), .slice aT (kidsOf d).length cT]) bX.out (by omega) (by omega)).cell 1 rfl)⟩ (fun hHeld => ?_)
        clear hK K
        refine wpAnyH_ready (rs := [3]) (by kernel_rfl) (by simp) ?_
        refine AllReadyH.cons rfl (fun K hK => ?_) AllReadyH.nil
        have v0 := hA5.out.bS.cell 0 rfl
        have v1 := hA5.out.bS.cell 1 rfl
        have fS := hA5.out.bS.unfrozen
        have bR6 : Hid (Box (putCells (putCells wc w.heap.size 0 [.string (strT d), .slice aT (kidsOf d).length cT]) (w.heap.size + 1) 0 [.string (strT (resTd o)), .slice aB (kidsOf (resTd o)).length cB]) w.heap.size [.string (strT d), .slice aT (kidsOf d).length cT] 26) := (putCells_other _ _ _ _ _ (by omega)).trans bR5.out
        have bS6 : Hid (Box (putCells (putCells wc w.heap.size 0 [.string (strT d), .slice aT (kidsOf d).length cT]) (w.heap.size + 1) 0 [.string (strT (resTd o)), .slice aB (kidsOf (resTd o)).length cB]) (w.heap.size + 1) [.string (strT (resTd o)), .slice aB (kidsOf (resTd o)).length cB] 26) := (bS5.out.set (i := 0) _).set (i := 1) _
        go_simp
        refine hK.out _ _ ⟨((two_box (g1 := w.heap.size) (cs := [.string (strT d), .slice aT (kidsOf d).length cT]) (g2 := w.heap.size + 1) (es := [.string (strT (resTd o)), .slice aB (kidsOf (resTd o)).length cB]) hA5.out.bT (by omega) (by omega)).cell 0 rfl), ((two_box (g1 := w.heap.size) (cs := [.string (strT d), .slice aT (kidsOf d).length cT]) (g2 := w.heap.size + 1) (es := [.string (strT (resTd o)), .slice aB (kidsOf (resTd o)).length cB]) hA5.out.bT (by omega) (by omega)).cell 1 rfl), ((two_box (g1 := w.heap.size) (cs := [.string (strT d), .slice aT (kidsOf d).length cT]) (g2 := w.heap.size + 1) (es := [.string (strT (resTd o)), .slice aB (kidsOf (resTd o)).length cB]) bX.out (by omega) (by omega)).cell 0 rfl), ((two_box (g1 := w.heap.size) (cs := [.string (strT d), .slice aT (kidsOf d).length cT]) (g2 := w.heap.size + 1) (es := [.string (strT (resTd o)), .slice aB (kidsOf (resTd o)).length cB]) bX.out (by omega) (by omega)).cell 1 rfl)⟩ (fun hHeld => ?_)
        clear hK K
        refine wpAnyH_done (by kernel_rfl) ?_ _
        go_wp2_with fail
        have s0 := bR6.out.cell 0 rfl
        have s1 := bR6.out.cell 1 rfl
        have q0 := bS6.out.cell 0 rfl
        have q1 := bS6.out.cell 1 rfl
        have hF1 : TreeAt (World.drew (putCells (putCells wc w.heap.size 0 [.string (strT d), .slice aT (kidsOf d).length cT]) (w.heap.size + 1) 0 [.string (strT (resTd o)), .slice aB (kidsOf (resTd o)).length cB])) 0 4 (.string (strT d)) (.slice aT (kidsOf d).length cT) d := tree0 (((hA5.out.ht.puts (g := w.heap.size) (o := 0) (Or.inl (by omega)) [.string (strT d), .slice aT (kidsOf d).length cT]).puts (g := w.heap.size + 1) (o := 0) (Or.inl (by omega)) [.string (strT (resTd o)), .slice aB (kidsOf (resTd o)).length cB]).below (Below.drew (Below.refl _ _))).here
        have hF2 : TreeAt (World.drew (putCells (putCells wc w.heap.size 0 [.string (strT d), .slice aT (kidsOf d).length cT]) (w.heap.size + 1) 0 [.string (strT (resTd o)), .slice aB (kidsOf (resTd o)).length cB])) 0 nB (.string (strT (resTd o))) (.slice aB (kidsOf (resTd o)).length cB) (resTd o) := (two_puts (g1 := w.heap.size) (g2 := w.heap.size + 1) (cs := [.string (strT d), .slice aT (kidsOf d).length cT]) (ds := [.string (strT (resTd o)), .slice aB (kidsOf (resTd o)).length cB]) tX.out (by omega) (by omega)).below (Below.drew (Below.refl _ _))
        exact bodyPost_ret (v := .tuple #[.agg (List.toArray [.string (strT d), .slice aT (kidsOf d).length cT]), .agg (List.toArray [.string (strT (resTd o)), .slice aB (kidsOf (resTd o)).length cB])]) (by simp only [putCells] at s0 s1 q0 q1; simp [results, Try.results21, go_sem, s0, s1, q0, q1]) rfl ⟨⟨(4 + nB), _, _, _, _, _, _, rfl, TreeAt.mono (by omega) hF1, TreeAt.mono (by omega) hF2⟩, Below.drew (putCells_below [.string (strT (resTd o)), .slice aB (kidsOf (resTd o)).length cB] _ _ _ (w.heap.size + 1) 0 (by omega) (putCells_below [.string (strT d), .slice aT (kidsOf d).length cT] _ _ _ w.heap.size 0 (Nat.le_refl _) hA5.out.hb))⟩
end Go.Proofs.Ytndffcogddefiaa
