/- appendGrowth of the program: walked. -/
import Derived.Test.YtndffcogddefiaaDfStep
import Derived.Test.YtndffcogddefiaaTakeLit
import Derived.Deep.RegionHeld3
import Derived.Deep.DeepCutAuto
namespace Go.Proofs.Ytndffcogddefiaa
open Go.RowKit Go.Deep
/-- a call that makes edits, under way -/
def Gs (TE base m : Nat) (w0 w wr : World) (vout v : Value) (ys : List EditD) (cA cB : List Value) (TT : Nat) (kp : Value) (p : List Int) (fp : List Nat) : Prop :=
  (∃ bss css, GrowOwn TE 5 (EditO m) base wr v ys bss css) ∧ w.grownBy wr vout.ownBlock ∧ (v.ownBlock = vout.ownBlock ∨ ∃ g, v.ownBlock = some g ∧ w.heap.size + 2 ≤ g) ∧ Box wr w.heap.size cA TT ∧ Box wr (w.heap.size + 1) cB TT ∧ SeqOwn 1 IntOwn wr kp p fp ∧ Below w0.heap.size w0 wr
theorem Gs.below {TE base m : Nat} {w0 w wr W : World} {vout v : Value} {ys : List EditD} {cA cB : List Value} {TT : Nat} {kp : Value} {p : List Int} {fp : List Nat} (h : Gs TE base m w0 w wr vout v ys cA cB TT kp p fp) (hb : Below wr.heap.size wr W) : Gs TE base m w0 w W vout v ys cA cB TT kp p fp := by
  obtain ⟨⟨bss, css, h1⟩, h2, h3, h4, h5, h6, h7⟩ := h
  exact ⟨⟨bss, css, h1.below (EditO_stays m) hb⟩, grown_trans2 h2 (grown_ofB (r := none) hb) (fun _ e _ => by cases e), h3, h4.below hb h4.lt, h5.below hb h5.lt, h6.stays intOwn_stays (fun b q => hb.block b (h6.lt intOwn_lt b q)), h7.trans (hb.mono h7.size)⟩
theorem Gs.grow {TE base m : Nat} {w0 w V w6 : World} {vout v v6 : Value} {ys ys6 : List EditD} {cA cB : List Value} {TT : Nat} {kp : Value} {p : List Int} {fp : List Nat} (h : Gs TE base m w0 w V vout v ys cA cB TT kp p fp) (hv : ∀ g, vout.ownBlock = some g → w0.heap.size ≤ g ∧ g < w.heap.size ∧ ∀ x ∈ fp, x ≠ g) (hfp : ∀ x ∈ fp, x < w.heap.size) (h0 : w0.heap.size ≤ w.heap.size) (hV : w.heap.size + 2 ≤ V.heap.size)
    (hg : V.grownBy w6 v.ownBlock) (hg6 : ∃ bss css, GrowOwn TE 5 (EditO m) base w6 v6 ys6 bss css) (hat : v6.ownBlock = v.ownBlock ∨ ∃ g, v6.ownBlock = some g ∧ V.heap.size ≤ g) : Gs TE base m w0 w w6 vout v6 ys6 cA cB TT kp p fp := by
  obtain ⟨_, h2, h3, h4, h5, h6, h7⟩ := h
  have hne : ∀ q, q < w.heap.size + 2 → vout.ownBlock ≠ some q → v.ownBlock ≠ some q := fun q h1 h2 e => by
    rcases h3 with k | ⟨g, k, k2⟩
    · exact h2 (k ▸ e)
    · rw [k] at e; injection e with e; omega
  refine ⟨hg6, grown_trans2 h2 hg (fun g e hl => ?_), ?_, box_grown h4 hg (hne _ (by omega) (fun e => by have := (hv _ e).2.1; omega)), box_grown h5 hg (hne _ (by omega) (fun e => by have := (hv _ e).2.1; omega)), seqOwn_grown intOwn_stays intOwn_lt h6 hg (fun x hx => hne x (by have := hfp x hx; omega) (fun e => (hv _ e).2.2 x hx rfl)), h7.trans (below_of_grown hg h7.size (fun g e => ?_))⟩
  · rcases h3 with k | ⟨g', k, k2⟩
    · rw [← k]; exact e
    · rw [k] at e; injection e with e; omega
  · rcases hat with k | ⟨g, k, k2⟩
    · rcases h3 with k3 | ⟨g', k3, k4⟩
      · exact Or.inl (k.trans k3)
      · exact Or.inr ⟨g', k.trans k3, k4⟩
    · exact Or.inr ⟨g, k, by omega⟩
  · rcases h3 with k | ⟨g', k, k2⟩
    · rw [k] at e; exact (hv g e).1
    · rw [k] at e; injection e with e; omega
set_option maxRecDepth 100000 in
set_option maxHeartbeats 8000000 in
theorem grI_step {w0 : World} {lo base m : Nat} (n : Nat) (ih0 : GrI w0 lo base m n) : GrI w0 lo base m (n + 1) := by
  intro w wg ta ka tb kb kp vout a b p fp xs bss css hta htb hR hB0 hbase hbg hnm hgr hbw hp hlo hpl hxl
  obtain ⟨rfl, _⟩ := hta.tag
  obtain ⟨_, aA, cA, rfl⟩ := hta.form
  obtain ⟨rfl, _⟩ := htb.tag
  obtain ⟨_, aB, cB, rfl⟩ := htb.form
  have ih : Hid (GrI w0 lo base m n) := ih0
  have hta0 : Hid (TreeAt w0 lo (n + 1) (.string (strT a)) (.slice aA (kidsOf a).length cA) a) := hta
  have htb0 : Hid (TreeAt w0 lo (n + 1) (.string (strT b)) (.slice aB (kidsOf b).length cB) b) := htb
  have hR' : Hid (RightT b) := hR
  have hfew : (kidsOf b).length ≤ 30 := hR.few
  have hvlt : Hid (∀ g, vout.ownBlock = some g → base ≤ g ∧ g < wg.heap.size) := fun g e => ⟨own_block2 hgr.2.2.2.1 g e, row_lt hgr.2.2.2.1 g e⟩
  have hwgw := hbw.size
  have hz0 := hB0.size
  have hcT : Hid (cntTree (n + 1 + 1) b = 1 + cntL (cntTree (n + 1)) (kidsOf b)) := rfl
  have hyl : Hid (∀ j, j ≤ (kidsOf b).length → (xs ++ growJ (growD n) a b p j).length ≤ 100000) := fun j hj => by have h1 := growJ_len (growD_len n) a b p j hj; have h2 := pos_le (cnt := cntTree (n + 1)) (xs := kidsOf b) hj (Nat.le_refl _); rw [List.length_append]; have h3 := hcT.out; unfold cntL at h3; omega
  obtain ⟨iT, hiT0, heT0, heT1, heT2⟩ := info_parts infoEdF
  have hiT : Hid (Try.prog.info? 29 = some iT) := hiT0
  have heT : Hid (iT.zero = some (.agg #[.int .i64 0, .slice none 0 0, .string ByteArray.empty, .string ByteArray.empty, .slice none 0 0]) ∧ iT.size = 5 ∧ iT.bytes = 88) := ⟨heT0, heT1, heT2⟩
  clear hiT0 heT0 heT1 heT2
  have hpl1 : p.length ≤ 100000 := by omega
  obtain ⟨av, capv, rfl⟩ := hgr.len
  obtain ⟨apk, capk, rfl⟩ := hp.form
  have hv9 : Hid (∀ g, (Value.slice av xs.length capv).ownBlock = some g → w0.heap.size ≤ g ∧ g < w.heap.size ∧ ∀ x ∈ fp, x ≠ g) := fun g e => ⟨by have := (hvlt.out g e).1; omega, by have := (hvlt.out g e).2; omega, fun x hx => by have := (hvlt.out g e).2; have := hlo x hx; omega⟩
  have hfp9 : Hid (∀ x ∈ fp, x < w.heap.size) := hp.lt intOwn_lt
  have hb2 : Below w.heap.size w ((w.alloc (.cells #[.string (strT a), .slice aA (kidsOf a).length cA] 26)).alloc (.cells #[.string (strT b), .slice aB (kidsOf b).length cB] 26)) := ((Below.refl _ _).alloc (Nat.le_refl _) _).alloc (by simp) _
  have hgs0 : Hid (Gs 29 base m w0 w ((w.alloc (.cells #[.string (strT a), .slice aA (kidsOf a).length cA] 26)).alloc (.cells #[.string (strT b), .slice aB (kidsOf b).length cB] 26)) (.slice av xs.length capv) (.slice av xs.length capv) xs [.string (strT a), .slice aA (kidsOf a).length cA] [.string (strT b), .slice aB (kidsOf b).length cB] 26 (.slice apk p.length capk) p fp) := ⟨⟨bss, css, hgr.below (EditO_stays m) (hbw.trans (hb2.mono hwgw))⟩, grown_ofB hb2, Or.inl rfl, (Box.new w [.string (strT a), .slice aA (kidsOf a).length cA] 26).alloc _, (by have q := Box.new (w.alloc (.cells #[.string (strT a), .slice aA (kidsOf a).length cA] 26)) [.string (strT b), .slice aB (kidsOf b).length cB] 26; simpa only [World.size_alloc] using q), hp.stays intOwn_stays (fun x hx => hb2.block x (hp.lt intOwn_lt x hx)), hB0.trans (hb2.mono hz0)⟩
  have s2 : Hid (((w.alloc (.cells #[.string (strT a), .slice aA (kidsOf a).length cA] 26)).alloc (.cells #[.string (strT b), .slice aB (kidsOf b).length cB] 26)).heap.size = w.heap.size + 2) := by simp [Hid]
  have c1 := hgs0.out.2.2.2.2.1.cell 1 rfl
  clear ih0 hta htb hR hB0 hgr hbw hp hlo hb2
  go_enter Try.func45, Try.ntmps45
  go_wp2_with fail
  clear c1
  go_loopw [0, 14] (fun v i wr => ∃ (j : Nat) (avj : Option Addr) (capj : Nat) (ys : List EditD), j ≤ (kidsOf b).length ∧ i = .int .i64 j ∧ v = .slice avj ys.length capj ∧ Hid (ys = xs ++ growJ (growD n) a b p j) ∧ Hid (Gs 29 base m w0 w wr (.slice av xs.length capv) (.slice avj ys.length capj) ys [.string (strT a), .slice aA (kidsOf a).length cA] [.string (strT b), .slice aB (kidsOf b).length cB] 26 (.slice apk p.length capk) p fp) ∧ w.heap.size + 2 ≤ wr.heap.size) (fun _ i _ => (kidsOf b).length - (intOf i).toNat)
  case atStart => exact ⟨0, av, capv, xs, by omega, rfl, rfl, by show _ = _; rw [growJ_zero, List.append_nil], hgs0, by rw [s2.out]; exact Nat.le_refl _⟩
  case round =>
    obtain ⟨j, avj, capj, ys, hj, rfl, rfl, hys, hgs, hsz⟩ := hrel
    by_cases hlt : j < (kidsOf b).length
    · obtain ⟨bk, ok, t', k', rfl, hbk, k0, k1, htk⟩ := htb0.out.kid (p := j) hlt
      have hRY : Hid (RightT (nth (kidsOf b) j)) := hR'.out.nth hlt
      obtain ⟨pj, hpj⟩ : ∃ pj : List Int, (p ++ [(j : Int)]) = pj := ⟨_, rfl⟩
      have hpjl : pj.length ≤ 1048576 := by rw [← hpj]; simp; omega
      have hpjh : Hid ((p ++ [(j : Int)]) = pj) := hpj
      have hGJ : Hid (growJ (growD n) a b p (j + 1) = growJ (growD n) a b p j ++ (if j < (kidsOf a).length then growD n (nth (kidsOf a) j) (nth (kidsOf b) j) pj else [insE pj (nth (kidsOf b) j)])) := by rw [← hpj]; exact growJ_succ _ _ _ _ _
      have hcnt : Hid (ys.length + cntTree (n + 1) (nth (kidsOf b) j) ≤ 100000 ∧ pj.length + cntTree (n + 1) (nth (kidsOf b) j) ≤ 100000) := by
        have h1 := growJ_len (growD_len n) a b p j (by omega)
        have h2 := pos_le (cnt := cntTree (n + 1)) (xs := kidsOf b) (show j + 1 ≤ (kidsOf b).length from hlt) (Nat.le_refl _)
        rw [pos_succ hlt] at h2
        have h3 := hcT.out
        unfold cntL at h3
        rw [nth_get hlt]
        have h4 := hys.out
        refine ⟨?_, ?_⟩
        · rw [h4, List.length_append]; omega
        · rw [← hpj, List.length_append, List.length_singleton]; omega
      obtain ⟨rfl, _⟩ := htk.tag
      obtain ⟨_, aY, cY, rfl⟩ := htk.form
      have hbw0 := hgs.out.2.2.2.2.2.2
      have z0 : wr.cell? ⟨bk, ok + j * 2, none⟩ = some _ := (hbw0.cell (p := ⟨bk, ok + j * 2, none⟩) hbk).trans k0
      have z1 : wr.cell? ⟨bk, ok + j * 2 + 1, none⟩ = some _ := (hbw0.cell (p := ⟨bk, ok + j * 2 + 1, none⟩) hbk).trans k1
      have hY0 : Hid (TreeAt w0 lo n (.string (strT (nth (kidsOf b) j))) (.slice aY (kidsOf (nth (kidsOf b) j)).length cY) (nth (kidsOf b) j)) := htk
      generalize hYY : nth (kidsOf b) j = Y at hRY hGJ hY0 z0 z1 hcnt
      have hltI : (j : Int) < ((kidsOf b).length : Int) := by omega
      have hj0 : (0 : Int) ≤ (j : Int) := by omega
      have hbV : Hid (Below wr.heap.size wr (wr.alloc (.cells #[.string (strT Y), .slice aY (kidsOf Y).length cY] 26))) := (Below.refl _ _).alloc (Nat.le_refl _) _
      have bYV : Hid (Box (wr.alloc (.cells #[.string (strT Y), .slice aY (kidsOf Y).length cY] 26)) wr.heap.size [.string (strT Y), .slice aY (kidsOf Y).length cY] 26) := Box.new wr _ _
      have hgsV : Hid (Gs 29 base m w0 w (wr.alloc (.cells #[.string (strT Y), .slice aY (kidsOf Y).length cY] 26)) (.slice av xs.length capv) (.slice avj ys.length capj) ys [.string (strT a), .slice aA (kidsOf a).length cA] [.string (strT b), .slice (some ⟨bk, ok, none⟩) (kidsOf b).length cB] 26 (.slice apk p.length capk) p fp) := hgs.out.below hbV.out
      have hzV : Hid ((wr.alloc (.cells #[.string (strT Y), .slice aY (kidsOf Y).length cY] 26)).heap.size = wr.heap.size + 1) := by simp [Hid]
      have hpAt : Hid (SeqAt 1 IntAt (wr.alloc (.cells #[.string (strT Y), .slice aY (kidsOf Y).length cY] 26)) 0 (.slice apk p.length capk) p) := hgsV.out.2.2.2.2.2.1.at intOwn_at (fun _ _ => Nat.zero_le _)
      have hYat : Hid (∀ W, Below (wr.alloc (.cells #[.string (strT Y), .slice aY (kidsOf Y).length cY] 26)).heap.size (wr.alloc (.cells #[.string (strT Y), .slice aY (kidsOf Y).length cY] 26)) W → TreeAt W 0 n (.string (strT Y)) (.slice aY (kidsOf Y).length cY) Y) := fun W hb => TreeAt.keep (w := w0) (w' := W) (hgsV.out.2.2.2.2.2.2.trans (hb.mono hgsV.out.2.2.2.2.2.2.size)).size (Nat.zero_le _) (fun x _ q => (hgsV.out.2.2.2.2.2.2.trans (hb.mono hgsV.out.2.2.2.2.2.2.size)).block x q) n _ _ _ hY0.out
      have cA1 := hgsV.out.2.2.2.1.cell 1 rfl
      have hrl : Hid (∀ g, (Value.slice avj ys.length capj).ownBlock = some g → g < wr.heap.size) := by obtain ⟨_, _, hgw⟩ := hgs.out.1; exact row_lt hgw.2.2.2.1
      clear k0 k1 htk hbw0 hpj
      by_cases hla : j < (kidsOf a).length
      · have hlaI : (j : Int) < ((kidsOf a).length : Int) := by omega
        obtain ⟨ba, oa, t2, k2, rfl, hba, ka0, ka1, hta2⟩ := hta0.out.kid (p := j) hla
        obtain ⟨rfl, _⟩ := hta2.tag
        obtain ⟨_, aX, cX, rfl⟩ := hta2.form
        have hX0 : Hid (TreeAt w0 lo n (.string (strT (nth (kidsOf a) j))) (.slice aX (kidsOf (nth (kidsOf a) j)).length cX) (nth (kidsOf a) j)) := hta2
        have hGJ2 : Hid (growJ (growD n) a b p (j + 1) = growJ (growD n) a b p j ++ growD n (nth (kidsOf a) j) Y pj) := by have h1 := hGJ.out; rw [if_pos hla] at h1; exact h1
        have x0 : (wr.alloc (.cells #[.string (strT Y), .slice aY (kidsOf Y).length cY] 26)).cell? ⟨ba, oa + j * 2, none⟩ = some _ := (hgsV.out.2.2.2.2.2.2.cell (p := ⟨ba, oa + j * 2, none⟩) hba).trans ka0
        have x1 : (wr.alloc (.cells #[.string (strT Y), .slice aY (kidsOf Y).length cY] 26)).cell? ⟨ba, oa + j * 2 + 1, none⟩ = some _ := (hgsV.out.2.2.2.2.2.2.cell (p := ⟨ba, oa + j * 2 + 1, none⟩) hba).trans ka1
        have hba' : Hid (ba < w0.heap.size) := hba
        generalize hXX : nth (kidsOf a) j = X at hGJ2 hX0 x0 x1
        clear hGJ hXX ka0 ka1 hta2
        go_wp2_with fail
        have bA1 := hgsV.out.2.2.2.1
        generalize (wr.alloc (.cells #[.string (strT Y), .slice aY (kidsOf Y).length cY] 26)) = V at hbV bYV hgsV hzV hpAt hYat cA1 x0 x1 bA1 ⊢
        have y0 := bYV.out.cell 0 rfl
        have y1 := bYV.out.cell 1 rfl
        clear z0 z1
        go_region_held3 (fun w' => w'.cell? ⟨wr.heap.size, 0, none⟩ = some (.string (strT Y)) ∧ w'.cell? ⟨wr.heap.size, 1, none⟩ = some (.slice aY (kidsOf Y).length cY) ∧ w'.cell? ⟨w.heap.size, 1, none⟩ = some (.slice (some ⟨ba, oa, none⟩) (kidsOf a).length cA) ∧ w'.cell? ⟨ba, oa + j * 2, none⟩ = some (.string (strT X)) ∧ w'.cell? ⟨ba, oa + j * 2 + 1, none⟩ = some (.slice aX (kidsOf X).length cX)) (go_keep)
          (first | (go_at_call 61; refine (pathTo_any (lo := 0) (p := p) (by exact SeqAt.below intAt_stays hpAt.out (Below.drew (Below.refl _ _))) (by omega) (by unfold InI; omega)).mono ?_; rintro e1 w5 ⟨⟨v5, rfl, f5, o5, n5, l5⟩, hb5⟩; rw [hpjh.out] at o5; have hb5h : Hid (Below V.heap.size V w5) := undrew hb5; obtain ⟨a5, c5, rfl⟩ := o5.form; have o5h : Hid (SeqOwn 1 IntOwn w5 (.slice a5 pj.length c5) pj f5) := o5; have l5h : Hid (∀ x ∈ f5, V.heap.size ≤ x) := l5; have hgs5 : Hid (Gs 29 base m w0 w w5 (.slice av xs.length capv) (.slice avj ys.length capj) ys [.string (strT a), .slice (some ⟨ba, oa, none⟩) (kidsOf a).length cA] [.string (strT b), .slice (some ⟨bk, ok, none⟩) (kidsOf b).length cB] 26 (.slice apk p.length capk) p fp) := hgsV.out.below hb5h.out; have bY5 := bYV.out.below hb5h.out bYV.out.lt; have bA5 := hgs5.out.2.2.2.1; have q0 := bY5.cell 0 rfl; have q1 := bY5.cell 1 rfl; have q2 := bA5.cell 1 rfl; have q3 := (hb5h.out.cell (p := ⟨ba, oa + j * 2, none⟩) (by have h1 := hba'.out; have h2 := hzV.out; show ba < _; omega)).trans x0; have q4 := (hb5h.out.cell (p := ⟨ba, oa + j * 2 + 1, none⟩) (by have h1 := hba'.out; have h2 := hzV.out; show ba < _; omega)).trans x1; clear o5 l5 n5 hb5 bY5 bA5) | (go_at_call 45; obtain ⟨⟨bsV, csV, hgV⟩, _⟩ := hgsV.out; obtain ⟨zs, hzs⟩ : ∃ zs, ys ++ growD n X Y pj = zs := ⟨_, rfl⟩; have hzsh : Hid (ys ++ growD n X Y pj = zs) := hzs; clear hzs; refine (ih.out w5 V _ _ _ _ _ _ X Y pj f5 ys bsV csV hX0.out hY0.out hRY.out hgs5.out.2.2.2.2.2.2 hbase (by have := hzV.out; omega) (by omega) hgV hb5h.out o5h.out l5h.out hcnt.out.2 hcnt.out.1).mono ?_; rw [hzsh.out]; rintro e w6 ⟨v6, bs6, cs6, rfl, hg6, hgr6, hat6⟩; obtain ⟨a6, c6, rfl⟩ := hg6.len; have hz56 := hb5h.out.size; have hgs6 : Hid (Gs 29 base m w0 w w6 (.slice av xs.length capv) (.slice a6 zs.length c6) zs [.string (strT a), .slice (some ⟨ba, oa, none⟩) (kidsOf a).length cA] [.string (strT b), .slice (some ⟨bk, ok, none⟩) (kidsOf b).length cB] 26 (.slice apk p.length capk) p fp) := hgs5.out.grow hv9.out hfp9.out hz0 (by have := hzV.out; omega) hgr6 ⟨bs6, cs6, hg6⟩ hat6; have hne6 : (Value.slice avj ys.length capj).ownBlock ≠ some wr.heap.size := (fun e => by have := hrl.out _ e; omega); have bY6 := box_grown (bYV.out.below hb5h.out bYV.out.lt) hgr6 hne6; have q5 := bY6.cell 0 rfl; have q6 := bY6.cell 1 rfl; have q7 := hgs6.out.2.2.2.1.cell 1 rfl; have q8 : w6.cell? ⟨ba, oa + j * 2, none⟩ = some (.string (strT X)) := (hgs6.out.2.2.2.2.2.2.cell (p := ⟨ba, oa + j * 2, none⟩) hba'.out).trans ((hgs5.out.2.2.2.2.2.2.cell (p := ⟨ba, oa + j * 2, none⟩) hba'.out).symm.trans q3); have q9 : w6.cell? ⟨ba, oa + j * 2 + 1, none⟩ = some (.slice aX (kidsOf X).length cX) := (hgs6.out.2.2.2.2.2.2.cell (p := ⟨ba, oa + j * 2 + 1, none⟩) hba'.out).trans ((hgs5.out.2.2.2.2.2.2.cell (p := ⟨ba, oa + j * 2 + 1, none⟩) hba'.out).symm.trans q4); have hs6 := hgr6.size; clear hg6 hgr6 hat6 hgV))
        go_wp2_with fail
        go_roundw
        case rel =>
          refine ⟨j + 1, a6, c6, zs, by omega, by go_num, rfl, ?_, hgs6, ?_⟩
          · show _ = _; rw [← hzsh.out, hys.out, hGJ2.out, List.append_assoc]
          · have h3 := hzV.out; omega
        case measure => simp [intOf]; omega
      · have hlaI : ¬ ((j : Int) < ((kidsOf a).length : Int)) := by omega
        go_upto_region 6 with fail
        generalize (wr.alloc (.cells #[.string (strT Y), .slice aY (kidsOf Y).length cY] 26)) = V at hbV bYV hgsV hzV hpAt hYat cA1 ⊢
        refine wp_region_held_drew (S := fun w' => w'.cell? ⟨wr.heap.size, 0, none⟩ = some (.string (strT Y)) ∧ w'.cell? ⟨wr.heap.size, 1, none⟩ = some (.slice aY (kidsOf Y).length cY)) (by kernel_rfl) ⟨bYV.out.cell 0 rfl, bYV.out.cell 1 rfl⟩ (fun hHeld => ?_)
        refine tq (i := 0) (d := 35) ?_
        simp only [sz, ss]
        refine tq (i := 1) (d := 36) ?_
        simp only [sz, ss]
        refine tq (i := 2) (d := 37) ?_
        simp only [sz, ss]
        refine tq (i := 4) (d := 39) ?_
        simp only [sz, ss]
        refine wpAnyH_ready (rs := [3]) (by kernel_rfl) (by simp) ?_
        refine AllReadyH.cons rfl (fun K hK => ?_) AllReadyH.nil
        go_simp
        refine (pathTo_any (lo := 0) (p := p) (by exact SeqAt.below intAt_stays hpAt.out (Below.drew (Below.refl _ _))) (by omega) (by unfold InI; omega)).mono ?_
        rintro e1 w5 ⟨⟨v5, rfl, f5, o5, n5, l5⟩, hb5⟩
        rw [hpjh.out] at o5
        have hb5h : Hid (Below V.heap.size V w5) := undrew hb5
        obtain ⟨a5, c5, rfl⟩ := o5.form
        have o5h : Hid (SeqOwn 1 IntOwn w5 (.slice a5 pj.length c5) pj f5) := o5
        have hgs5 : Hid (Gs 29 base m w0 w w5 (.slice av xs.length capv) (.slice avj ys.length capj) ys [.string (strT a), .slice aA (kidsOf a).length cA] [.string (strT b), .slice (some ⟨bk, ok, none⟩) (kidsOf b).length cB] 26 (.slice apk p.length capk) p fp) := hgsV.out.below hb5h.out
        have bY5 := bYV.out.below hb5h.out bYV.out.lt
        clear o5 n5 l5 hb5
        refine hK.out _ _ ⟨bY5.cell 0 rfl, bY5.cell 1 rfl⟩ (fun hHeld => ?_)
        clear hK K
        refine tq (i := 5) (d := 40) ?_
        simp only [sz, ss]
        refine wpAnyH_ready (rs := [6]) (by kernel_rfl) (by simp) ?_
        refine AllReadyH.cons rfl (fun K hK => ?_) AllReadyH.nil
        go_simp
        refine (editIns_n (lo := 0) (n := n) (path := pj) (x := Y) (by exact o5h.out.at intOwn_at (fun _ _ => Nat.zero_le _)) hpjl (by exact hYat.out _ hb5h.out) hRY.out).mono ?_
        rintro e1 w6 ⟨cs9, fs9, rfl, ho9, lo9, hb6⟩
        have hb6h : Hid (Below w5.heap.size w5 w6) := hb6
        have hm9 : EditO n w6 cs9 (insE pj Y) fs9 := ho9
        obtain ⟨p9, d9, a9, c9, rfl, _, _, _⟩ := (EditO_at (lo := 0) hm9 (fun _ _ => Nat.zero_le _)).form
        have ho9h : Hid (EditO n w6 [.int .i64 (insE pj Y).vKind, .slice p9 (insE pj Y).vPath.length d9, .string (insE pj Y).vTag, .string (strT (insE pj Y).vTree), .slice a9 (kidsOf (insE pj Y).vTree).length c9] (insE pj Y) fs9) := hm9
        have lo9h : Hid (∀ x ∈ fs9, w5.heap.size ≤ x) := lo9
        have hgs6 : Hid (Gs 29 base m w0 w w6 (.slice av xs.length capv) (.slice avj ys.length capj) ys [.string (strT a), .slice aA (kidsOf a).length cA] [.string (strT b), .slice (some ⟨bk, ok, none⟩) (kidsOf b).length cB] 26 (.slice apk p.length capk) p fp) := hgs5.out.below hb6h.out
        have bY6 := bY5.below hb6h.out bY5.lt
        clear ho9 hm9 lo9 hb6
        refine hK.out _ _ ⟨bY6.cell 0 rfl, bY6.cell 1 rfl⟩ (fun hHeld => ?_)
        clear hK K
        refine wpAnyH_ready (rs := [7]) (by kernel_rfl) (by simp) ?_
        refine AllReadyH.cons rfl (fun K hK => ?_) AllReadyH.nil
        go_simp
        have bY7 := bY6.alloc (.cells #[.int .i64 (insE pj Y).vKind, .slice p9 (insE pj Y).vPath.length d9, .string (insE pj Y).vTag, .string (strT (insE pj Y).vTree), .slice a9 (kidsOf (insE pj Y).vTree).length c9] 29)
        refine hK.out _ _ ⟨bY7.cell 0 rfl, bY7.cell 1 rfl⟩ (fun hHeld => ?_)
        clear hK K
        refine wpAnyH_ready (rs := [8]) (by kernel_rfl) (by simp) ?_
        refine AllReadyH.cons rfl (fun K hK => ?_) AllReadyH.nil
        have b57 : Hid (Below w5.heap.size w5 (w6.alloc (.cells #[.int .i64 (insE pj Y).vKind, .slice p9 (insE pj Y).vPath.length d9, .string (insE pj Y).vTag, .string (strT (insE pj Y).vTree), .slice a9 (kidsOf (insE pj Y).vTree).length c9] 29))) := hb6h.out.alloc hb6h.out.size _
        have hnw : Hid (∀ i u, ([.int .i64 (insE pj Y).vKind, .slice p9 (insE pj Y).vPath.length d9, .string (insE pj Y).vTag, .string (strT (insE pj Y).vTree), .slice a9 (kidsOf (insE pj Y).vTree).length c9] : List Value)[i]? = some u → (w6.alloc (.cells #[.int .i64 (insE pj Y).vKind, .slice p9 (insE pj Y).vPath.length d9, .string (insE pj Y).vTag, .string (strT (insE pj Y).vTree), .slice a9 (kidsOf (insE pj Y).vTree).length c9] 29)).cell? ((⟨w6.heap.size, 0, none⟩ : Addr).add i) = some u) := fun i u hu => by rw [add_lit, Nat.zero_add]; exact (Box.new w6 [.int .i64 (insE pj Y).vKind, .slice p9 (insE pj Y).vPath.length d9, .string (insE pj Y).vTag, .string (strT (insE pj Y).vTree), .slice a9 (kidsOf (insE pj Y).vTree).length c9] 29).cell i hu
        have hone : Hid (∀ u ∈ ([.int .i64 (insE pj Y).vKind, .slice p9 (insE pj Y).vPath.length d9, .string (insE pj Y).vTag, .string (strT (insE pj Y).vTree), .slice a9 (kidsOf (insE pj Y).vTree).length c9] : List Value), u.oneCell' = true) := by intro u hu; simp only [List.mem_cons, List.not_mem_nil, or_false] at hu; rcases hu with rfl | rfl | rfl | rfl | rfl <;> rfl
        have hr7 : Hid (EditO m (w6.alloc (.cells #[.int .i64 (insE pj Y).vKind, .slice p9 (insE pj Y).vPath.length d9, .string (insE pj Y).vTag, .string (strT (insE pj Y).vTree), .slice a9 (kidsOf (insE pj Y).vTree).length c9] 29)) [.int .i64 (insE pj Y).vKind, .slice p9 (insE pj Y).vPath.length d9, .string (insE pj Y).vTag, .string (strT (insE pj Y).vTree), .slice a9 (kidsOf (insE pj Y).vTree).length c9] (insE pj Y) fs9) := EditO_mono (by omega) (EditO_stays n _ _ _ _ _ (fun x hx => Below.heap_alloc _ _ _ (EditO_lt _ _ _ _ _ ho9h.out x hx)) ho9h.out)
        have hyj : ys.length ≤ 100000 := by rw [hys.out]; exact hyl.out j hj
        obtain ⟨⟨bs5, cs5, hg5⟩, _⟩ := hgs5.out
        have hb5z : Hid (base ≤ w5.heap.size) := by show _ ≤ _; have h1 := hb5h.out.size; have h2 := hzV.out; omega
        refine step_append_grow (EditO_stays m) rfl _ _ 44 rfl base iT _ 88 Try.underlying44 hiT.out heT.out.1 heT.out.2.1 heT.out.2.2 rfl (by decide) (w := w5) (w2 := (w6.alloc (.cells #[.int .i64 (insE pj Y).vKind, .slice p9 (insE pj Y).vPath.length d9, .string (insE pj Y).vTag, .string (strT (insE pj Y).vTree), .slice a9 (kidsOf (insE pj Y).vTree).length c9] 29))) (v := .slice avj ys.length capj) (xs := ys) rfl hg5 b57.out hb5z.out ⟨w6.heap.size, 0, none⟩ 1 (cs := [.int .i64 (insE pj Y).vKind, .slice p9 (insE pj Y).vPath.length d9, .string (insE pj Y).vTag, .string (strT (insE pj Y).vTree), .slice a9 (kidsOf (insE pj Y).vTree).length c9]) (y := insE pj Y) (fs := fs9) rfl rfl hnw.out hone.out hr7.out (EditO_nodup hr7.out) lo9h.out (EditO_lt _ _ _ _ _ hr7.out) (by unfold maxLen; omega) (by omega) ?_
        intro g8 cap8 w8 hg8 hgr8 _ hat8
        have hx8 : Hid (∃ bss css, GrowOwn 29 5 (EditO m) base w8 (.slice (some ⟨g8, 0, none⟩) (ys.length + 1) cap8) (ys ++ [insE pj Y]) bss css) := ⟨_, _, hg8⟩
        have hgs8 : Hid (Gs 29 base m w0 w w8 (.slice av xs.length capv) (.slice (some ⟨g8, 0, none⟩) (ys.length + 1) cap8) (ys ++ [insE pj Y]) [.string (strT a), .slice aA (kidsOf a).length cA] [.string (strT b), .slice (some ⟨bk, ok, none⟩) (kidsOf b).length cB] 26 (.slice apk p.length capk) p fp) := (hgs6.out.below ((Below.refl _ _).alloc (Nat.le_refl _) _)).grow hv9.out hfp9.out hz0 (by have h1 := hb5h.out.size; have h2 := hb6h.out.size; have h3 := hzV.out; simp only [World.size_alloc]; omega) hgr8 hx8.out (by rcases hat8 with q | q; (exact Or.inl q.symm); (exact Or.inr ⟨g8, rfl, by omega⟩))
        have bY8 : Hid (Box w8 wr.heap.size _ _) := box_grown bY7 hgr8 (fun e => by rcases hgs6.out.2.2.1 with q | ⟨g9, q, q2⟩; (have := (hv9.out _ (q.symm.trans e)).2.1; omega); (rw [q] at e; injection e with e; have := hrl.out g9 q; omega))
        have hs8 := hgr8.size
        clear hg8 hgr8 hat8 hg5 hx8
        refine hK.out _ _ ⟨bY8.out.cell 0 rfl, bY8.out.cell 1 rfl⟩ (fun hHeld => ?_)
        clear hK K
        refine tq (i := 9) (d := 0) ?_
        simp only [sz, ss]
        refine wpAnyH_done (by kernel_rfl) ?_ _
        go_wp2_with fail
        go_roundw
        case rel =>
          refine ⟨j + 1, some ⟨g8, 0, none⟩, cap8, ys ++ [insE pj Y], by omega, by go_num, by simp, ?_, ?_, ?_⟩
          · show _ = _; rw [hys.out, hGJ.out, if_neg hla, List.append_assoc]
          · have q := hgs8.out; show Gs _ _ _ _ _ _ _ _ _ _ _ _ _ _ _; rw [List.length_append, List.length_singleton]; exact q
          · have h1 := hb5h.out.size; have h2 := hb6h.out.size; have h3 := hzV.out; simp only [World.size_alloc] at hs8; omega
        case measure => simp [intOf]; omega
    · obtain rfl : j = (kidsOf b).length := by omega
      go_wp2_with fail
      go_ret
      obtain ⟨⟨bs9, cs9, hg⟩, h2, h3, _⟩ := hgs.out
      have e9 := hys.out
      subst e9
      exact ⟨_, bs9, cs9, rfl, hg, h2, h3.imp id (fun ⟨g, e, q⟩ => ⟨g, e, by omega⟩)⟩
theorem grI_all {w0 : World} {lo base m : Nat} : ∀ n, GrI w0 lo base m n := by
  intro n
  induction n with
  | zero => intro w wg ta ka tb kb kp vout a b p fp xs bss css h; exact h.elim
  | succ n ih => exact grI_step n ih
end Go.Proofs.Ytndffcogddefiaa
