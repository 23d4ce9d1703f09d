/- l10Rest of the specification: walked. -/
import Derived.Test.YtndffcogddefiaaDfCut
import Derived.Test.YtndffcogddefiaaCopySpec
import Derived.Test.YtndffcogddefiaaAppendRows
namespace Go.Proofs.Ytndffcogddefiaa
open Go.RowKit Go.Deep
theorem box1_atF {w : World} {g lo : Nat} {x : Int} (h : Box w g [.int .i64 x] 2) (hx : InI x) (hlo : lo ≤ g := by exact Nat.zero_le _) : SeqAt 1 IntAt w lo (.slice (some ⟨g, 0, none⟩) 1 1) [x] := by
  refine ⟨some ⟨g, 0, none⟩, 1, rfl, ⟨by show 1 ≤ maxLen; unfold maxLen; omega, Nat.le_refl _⟩, fun _ => ⟨g, 0, rfl, hlo, h.lt, fun i hi => ⟨[.int .i64 x], rfl, fun m hm => ?_, ?_⟩⟩⟩
  · obtain rfl : i = 0 := by simp at hi; omega
    obtain rfl : m = 0 := by simp at hm; omega
    exact h.cell 0 rfl
  · obtain rfl : i = 0 := by simp at hi; omega
    exact ⟨rfl, hx⟩
def RsS (w0 : World) (lo base m : Nat) (n : Nat) : Prop := ∀ (w wg : World) (ta ka tb kb kp vout : Value) (a b : TD) (p : List Int) (fp : List Nat) (xs : List EditD) (bss : List (List Nat)) (css : List (List Value)), TreeAt w0 lo n ta ka a → TreeAt w0 lo n tb kb b → RightT a → RightT b → Below w0.heap.size w0 w → w0.heap.size ≤ base → base ≤ wg.heap.size → n ≤ m →
    GrowOwn 29 5 (EditO m) base wg vout xs bss css → Below wg.heap.size wg w → SeqOwn 1 IntOwn w kp p fp → (∀ x ∈ fp, wg.heap.size ≤ x) → p.length + cntTree (n + 1) b ≤ 100000 → xs.length + cntTree (n + 1) b ≤ 100000 →
    Calls Try.prog 46 #[.agg #[ta, ka], .agg #[tb, kb], kp, vout] w fun e w' => DfAns base m w w' vout e (xs ++ growD n a b p)
set_option maxRecDepth 100000 in
set_option maxHeartbeats 8000000 in
theorem RsS_step {w0 : World} {lo base m : Nat} (n : Nat) (ih0 : RsS w0 lo base m n) : RsS w0 lo base m (n + 1) := by
  intro w wg ta ka tb kb kp vout a b p fp xs bss css hta htb hRa hRb hB0 hbase hbg hnm hgr hbw hp hlo hpl hxl
  obtain ⟨rfl, _⟩ := hta.tag
  obtain ⟨_, aA, cA, rfl⟩ := hta.form
  obtain ⟨rfl, htg0⟩ := htb.tag
  obtain ⟨_, aB, cB, rfl⟩ := htb.form
  have htg : Hid ((strT b).size ≤ maxLen) := htg0
  have ih : Hid (RsS w0 lo base m n) := ih0
  have hta0 : Hid (TreeAt w0 lo (n + 1) (.string (strT a)) (.slice aA (kidsOf a).length cA) a) := hta
  have htb0 : Hid (TreeAt w0 lo (n + 1) (.string (strT b)) (.slice aB (kidsOf b).length cB) b) := htb
  have hRa' : Hid (RightT a) := hRa
  have hRb' : Hid (RightT b) := hRb
  have hfewa : (kidsOf a).length ≤ 30 := hRa.few
  have hfewb : (kidsOf b).length ≤ 30 := hRb.few
  have hvlt : Hid (∀ g, vout.ownBlock = some g → base ≤ g ∧ g < wg.heap.size) := fun g e => ⟨own_block2 hgr.2.2.2.1 g e, row_lt hgr.2.2.2.1 g e⟩
  have hwgw := hbw.size
  have hz0 := hB0.size
  have hcT : Hid (cntTree (n + 1 + 1) b = 1 + cntL (cntTree (n + 1)) (kidsOf b)) := rfl
  obtain ⟨iT, hiT0, heT0, heT1, heT2⟩ := info_parts infoEdF
  have hiT : Hid (Try.prog.info? 29 = some iT) := hiT0
  have heT : Hid (iT.zero = some (.agg #[.int .i64 0, .slice none 0 0, .string ByteArray.empty, .string ByteArray.empty, .slice none 0 0]) ∧ iT.size = 5 ∧ iT.bytes = 88) := ⟨heT0, heT1, heT2⟩
  obtain ⟨iI, hiI0, heI0, heI1, heI2⟩ := info_parts2 infoI
  have hiI : Hid (Try.prog.info? 2 = some iI) := hiI0
  have heI : Hid (iI.zero = some (.int .i64 0) ∧ iI.size = 1 ∧ iI.bytes = 8) := ⟨heI0, heI1, heI2⟩
  clear hiT0 heT0 heT1 heT2 hiI0 heI0 heI1 heI2
  have hpl1 : p.length ≤ 100000 := by omega
  have hIp : Hid (∀ x ∈ p, InI x) := seqAt_inI (hp.at intOwn_at (fun _ _ => Nat.zero_le _))
  obtain ⟨av, capv, rfl⟩ := hgr.len
  obtain ⟨apk, capk, rfl⟩ := hp.form
  have hv9 : Hid (∀ g, (Value.slice av xs.length capv).ownBlock = some g → w0.heap.size ≤ g ∧ g < w.heap.size ∧ ∀ x ∈ fp, x ≠ g) := fun g e => ⟨by have := (hvlt.out g e).1; omega, by have := (hvlt.out g e).2; omega, fun x hx => by have := (hvlt.out g e).2; have := hlo x hx; omega⟩
  have hfp9 : Hid (∀ x ∈ fp, x < w.heap.size) := hp.lt intOwn_lt
  have hb2 : Below w.heap.size w ((w.alloc (.cells #[.string (strT a), .slice aA (kidsOf a).length cA] 26)).alloc (.cells #[.string (strT b), .slice aB (kidsOf b).length cB] 26)) := ((Below.refl _ _).alloc (Nat.le_refl _) _).alloc (by simp) _
  have hgs0 : Hid (Gs 29 base m w0 w ((w.alloc (.cells #[.string (strT a), .slice aA (kidsOf a).length cA] 26)).alloc (.cells #[.string (strT b), .slice aB (kidsOf b).length cB] 26)) (.slice av xs.length capv) (.slice av xs.length capv) xs [.string (strT a), .slice aA (kidsOf a).length cA] [.string (strT b), .slice aB (kidsOf b).length cB] 26 (.slice apk p.length capk) p fp) := ⟨⟨bss, css, hgr.below (EditO_stays m) (hbw.trans (hb2.mono hwgw))⟩, grown_ofB hb2, Or.inl rfl, (Box.new w [.string (strT a), .slice aA (kidsOf a).length cA] 26).alloc _, (by have q := Box.new (w.alloc (.cells #[.string (strT a), .slice aA (kidsOf a).length cA] 26)) [.string (strT b), .slice aB (kidsOf b).length cB] 26; simpa only [World.size_alloc] using q), hp.stays intOwn_stays (fun x hx => hb2.block x (hp.lt intOwn_lt x hx)), hB0.trans (hb2.mono hz0)⟩
  have s2 : Hid (((w.alloc (.cells #[.string (strT a), .slice aA (kidsOf a).length cA] 26)).alloc (.cells #[.string (strT b), .slice aB (kidsOf b).length cB] 26)).heap.size = w.heap.size + 2) := by simp [Hid]
  have hbw2 : base ≤ w.heap.size := by omega
  clear ih0 hta htb hRa hRb hB0 hgr hbw hp hlo hb2
  have d1 := hgs0.out.2.2.2.2.1.cell 1 rfl
  go_enter Try.func46, Try.ntmps46
  go_wp2_with fail
  clear d1
  go_loopw [3, 9] (fun v i wr => ∃ (j : Nat) (avj : Option Addr) (capj : Nat) (ys : List EditD), j ≤ (kidsOf b).length ∧ i = .int .i64 j ∧ v = .slice avj ys.length capj ∧ Hid (ys = xs ++ growJ (growD n) a b p j) ∧ Hid (Gs 29 base m w0 w wr (.slice av xs.length capv) (.slice avj ys.length capj) ys [.string (strT a), .slice aA (kidsOf a).length cA] [.string (strT b), .slice aB (kidsOf b).length cB] 26 (.slice apk p.length capk) p fp) ∧ w.heap.size + 2 ≤ wr.heap.size) (fun _ i _ => (kidsOf b).length - (intOf i).toNat)
  case atStart => exact ⟨0, av, capv, xs, by omega, rfl, rfl, (by show _ = _; rw [growJ_zero, List.append_nil]), hgs0, by rw [s2.out]; exact Nat.le_refl _⟩
  case round =>
    obtain ⟨j, avj, capj, ys, hj, rfl, rfl, hys, hgs, hsz⟩ := hrel
    clear hgs0 s2
    have d1 := hgs.out.2.2.2.2.1.cell 1 rfl
    by_cases hlb : j < (kidsOf b).length
    · have hlbI : (j : Int) < ((kidsOf b).length : Int) := by omega
      have hj0 : (0 : Int) ≤ (j : Int) := by omega
      obtain ⟨bb, ob, t3, k3, rfl, hbb0, kb0', kb1', hty⟩ := htb0.out.kid (p := j) hlb
      have htgY0 : (strT (nth (kidsOf b) j)).size ≤ maxLen := hty.tag.2
      obtain ⟨rfl, _⟩ := hty.tag
      obtain ⟨_, aY, cY, rfl⟩ := hty.form
      have hRY : Hid (RightT (nth (kidsOf b) j)) := hRb'.out.nth hlb
      have hY0 : Hid (TreeAt w0 lo n (.string (strT (nth (kidsOf b) j))) (.slice aY (kidsOf (nth (kidsOf b) j)).length cY) (nth (kidsOf b) j)) := hty
      have hbb : Hid (bb < w0.heap.size) := hbb0
      have kb0 : Hid (w0.cell? ⟨bb, ob + j * 2, none⟩ = some (.string (strT (nth (kidsOf b) j)))) := kb0'
      have kb1 : Hid (w0.cell? ⟨bb, ob + j * 2 + 1, none⟩ = some (.slice aY (kidsOf (nth (kidsOf b) j)).length cY)) := kb1'
      clear hbb0 kb0' kb1' hty
      obtain ⟨pj, hpj⟩ : ∃ pj : List Int, p ++ [(j : Int)] = pj := ⟨_, rfl⟩
      have hpjl : pj.length ≤ 1048576 := by rw [← hpj]; simp; omega
      have hpjh : Hid (p ++ [(j : Int)] = pj) := hpj
      have hIX : Hid (InI (j : Int)) := by show InI _; unfold InI; omega
      have hIj : Hid (∀ x ∈ pj, InI x) := by rw [← hpj]; intro x hx; rcases List.mem_append.1 hx with q | q; (exact hIp.out x q); (simp at q; subst q; exact hIX.out)
      have hrl : Hid (∀ g, (Value.slice avj ys.length capj).ownBlock = some g → g < wr.heap.size) := by obtain ⟨_, _, hgw⟩ := hgs.out.1; exact row_lt hgw.2.2.2.1
      have hcnt : Hid (ys.length + cntTree (n + 1) (nth (kidsOf b) j) ≤ 100000 ∧ pj.length + cntTree (n + 1) (nth (kidsOf b) j) ≤ 100000) := by
        have h1 := growJ_len (growD_len n) a b p j (by omega)
        have h2 := pos_le (cnt := cntTree (n + 1)) (xs := kidsOf b) (show j + 1 ≤ (kidsOf b).length from hlb) (Nat.le_refl _)
        rw [pos_succ hlb] at h2
        have h3 := hcT.out
        unfold cntL at h3
        rw [nth_get hlb]
        have h4 := hys.out
        refine ⟨?_, ?_⟩
        · rw [h4, List.length_append]; omega
        · rw [← hpj, List.length_append, List.length_singleton]; omega
      have hGJ : Hid (growJ (growD n) a b p (j + 1) = growJ (growD n) a b p j ++ (if j < (kidsOf a).length then growD n (nth (kidsOf a) j) (nth (kidsOf b) j) pj else [insE pj (nth (kidsOf b) j)])) := by rw [← hpj]; exact growJ_succ _ _ _ _ _
      have hyl : ys.length ≤ 100000 := by have := hcnt.out; omega
      have htgY : Hid ((strT (nth (kidsOf b) j)).size ≤ maxLen) := htgY0
      generalize nth (kidsOf b) j = Y at hGJ hRY hY0 kb0 kb1 hcnt htgY
      clear hpj htgY0
      have hpA : Hid (SeqAt 1 IntAt (wr.alloc (.cells #[] 2)) 0 (.slice apk p.length capk) p) := (hgs.out.2.2.2.2.2.1.at intOwn_at (fun _ _ => Nat.zero_le _)).below intAt_stays ((Below.refl _ _).alloc (Nat.le_refl _) _)
      go_upto_if 28 with (at_builtin; first | (refine wpList_append_ints rfl _ _ 27 rfl wr.heap.size 0 2 iI Try.underlying27 hiI.out heI.out.1 heI.out.2.1 heI.out.2.2 (.slice (some ⟨wr.heap.size, 0, none⟩) 0 0) 0 [] rfl (by simp) (row_start (Nat.le_refl _)) _ p rfl hpA.out (by omega) (by simp) ?_; intro v1 w1 hown1 hgrow1 hnn1; have row1 : Hid (w1.ownsRow wr.heap.size 2 1 v1 p.length (p.map fun n => Value.int .i64 n)) := (by have q := hown1; rw [Nat.zero_add, List.nil_append] at q; exact q); obtain ⟨g1, cap1, rfl⟩ := nonnil_row row1.out hnn1; have hb1 : Hid (Below wr.heap.size wr w1) := ((Below.refl _ _).alloc (Nat.le_refl _) _).grown hgrow1 (by simp) (fun k e => by simp [Value.ownBlock] at e; omega); have hz1 := hb1.out.size; clear hown1 hgrow1 hnn1; have hx1 : Hid (SeqAt 1 IntAt (w1.alloc (.cells #[.int .i64 (j : Int)] 2)) 0 (.slice (some ⟨w1.heap.size, 0, none⟩) 1 1) [(j : Int)]) := box1_atF (Box.new w1 [.int .i64 (j : Int)] 2) hIX.out; have row1b : Hid ((w1.alloc (.cells #[.int .i64 (j : Int)] 2)).ownsRow wr.heap.size 2 1 (.slice (some ⟨g1, 0, none⟩) p.length cap1) p.length (p.map fun n => Value.int .i64 n)) := row_below row1.out ((Below.refl _ _).alloc (Nat.le_refl _) _)) | (refine wpList_append_ints rfl _ _ 27 rfl wr.heap.size 0 2 iI Try.underlying27 hiI.out heI.out.1 heI.out.2.1 heI.out.2.2 (.slice (some ⟨g1, 0, none⟩) p.length cap1) p.length (p.map fun n => Value.int .i64 n) rfl (by simp) row1b.out _ [(j : Int)] rfl hx1.out (by simp; omega) (by simp only [World.size_alloc]; omega) ?_; intro v2 w5 hown2 hgrow2 hnn2; have row2 : Hid (w5.ownsRow wr.heap.size 2 1 v2 pj.length (pj.map fun n => Value.int .i64 n)) := (by rw [← hpjh.out]; show World.ownsRow _ _ _ _ _ _ _; rw [List.length_append, List.map_append]; exact hown2); obtain ⟨f5, o5, l5⟩ := seqOwn_of_row row2.out hIj.out; obtain ⟨a5, c5, rfl⟩ := o5.form; have hb5h : Hid (Below wr.heap.size wr w5) := (hb1.out.alloc hb1.out.size _).grown hgrow2 (by simp only [World.size_alloc]; omega) (fun k e => own_block2 row1.out k e); have o5h : Hid (SeqOwn 1 IntOwn w5 (.slice a5 pj.length c5) pj f5) := o5; have l5h : Hid (∀ x ∈ f5, wr.heap.size ≤ x) := (fun x hx => l5 x hx); have hgs5 : Hid (Gs 29 base m w0 w w5 (.slice av xs.length capv) (.slice avj ys.length capj) ys [.string (strT a), .slice aA (kidsOf a).length cA] [.string (strT b), .slice (some ⟨bb, ob, none⟩) (kidsOf b).length cB] 26 (.slice apk p.length capk) p fp) := hgs.out.below hb5h.out; have hz5 := hb5h.out.size; have e1 := hgs5.out.2.2.2.1.cell 1 rfl; clear o5 l5 hown2 hgrow2 hnn2 row1 row2 hb1 hpA hx1 row1b))
      clear d1
      by_cases hla : j < (kidsOf a).length
      · have hlaI : (j : Int) < ((kidsOf a).length : Int) := by omega
        obtain ⟨ba, oa, t2, k2, rfl, hba0, ka0', ka1', htx⟩ := hta0.out.kid (p := j) hla
        obtain ⟨rfl, _⟩ := htx.tag
        obtain ⟨_, aX, cX, rfl⟩ := htx.form
        have hRX : Hid (RightT (nth (kidsOf a) j)) := hRa'.out.nth hla
        have hX0 : Hid (TreeAt w0 lo n (.string (strT (nth (kidsOf a) j))) (.slice aX (kidsOf (nth (kidsOf a) j)).length cX) (nth (kidsOf a) j)) := htx
        have hba : Hid (ba < w0.heap.size) := hba0
        have ka0 : Hid (w0.cell? ⟨ba, oa + j * 2, none⟩ = some (.string (strT (nth (kidsOf a) j)))) := ka0'
        have ka1 : Hid (w0.cell? ⟨ba, oa + j * 2 + 1, none⟩ = some (.slice aX (kidsOf (nth (kidsOf a) j)).length cX)) := ka1'
        clear hba0 ka0' ka1' htx
        have hGJ2 : Hid (growJ (growD n) a b p (j + 1) = growJ (growD n) a b p j ++ growD n (nth (kidsOf a) j) Y pj) := by have h1 := hGJ.out; rw [if_pos hla] at h1; exact h1
        generalize nth (kidsOf a) j = X at hGJ2 hRX hX0 ka0 ka1
        clear hGJ
        go_wp2_with fail
        have y0 := hgs5.out.2.2.2.1.cell 1 rfl; have y2 := (hgs5.out.2.2.2.2.2.2.cell (p := ⟨ba, oa + j * 2, none⟩) hba.out).trans ka0.out; have y3 := (hgs5.out.2.2.2.2.2.2.cell (p := ⟨ba, oa + j * 2 + 1, none⟩) hba.out).trans ka1.out
        have y1 := hgs5.out.2.2.2.2.1.cell 1 rfl; have y4 := (hgs5.out.2.2.2.2.2.2.cell (p := ⟨bb, ob + j * 2, none⟩) hbb.out).trans kb0.out; have y5 := (hgs5.out.2.2.2.2.2.2.cell (p := ⟨bb, ob + j * 2 + 1, none⟩) hbb.out).trans kb1.out
        go_region_held3 (fun w' => w'.cell? ⟨w.heap.size, 1, none⟩ = some (.slice (some ⟨ba, oa, none⟩) (kidsOf a).length cA) ∧ w'.cell? ⟨w.heap.size + 1, 1, none⟩ = some (.slice (some ⟨bb, ob, none⟩) (kidsOf b).length cB) ∧ w'.cell? ⟨ba, oa + j * 2, none⟩ = some (.string (strT X)) ∧ w'.cell? ⟨ba, oa + j * 2 + 1, none⟩ = some (.slice aX (kidsOf X).length cX) ∧ w'.cell? ⟨bb, ob + j * 2, none⟩ = some (.string (strT Y)) ∧ w'.cell? ⟨bb, ob + j * 2 + 1, none⟩ = some (.slice aY (kidsOf Y).length cY)) (go_keep) (first | (go_at_call 46; obtain ⟨⟨bsV, csV, hgV⟩, _⟩ := hgs.out; obtain ⟨zs, hzs⟩ : ∃ zs, ys ++ growD n X Y pj = zs := ⟨_, rfl⟩; have hzsh : Hid (ys ++ growD n X Y pj = zs) := hzs; clear hzs; have hbd : Hid (Below w5.heap.size w5 (World.drew w5)) := Below.drew (Below.refl _ _); refine (ih.out _ wr _ _ _ _ _ _ X Y pj f5 ys bsV csV hX0.out hY0.out hRX.out hRY.out (by exact hgs5.out.2.2.2.2.2.2.trans (hbd.out.mono hgs5.out.2.2.2.2.2.2.size)) hbase (by omega) (by omega) hgV (by exact hb5h.out.trans (hbd.out.mono hb5h.out.size)) (by exact o5h.out.below intOwn_stays intOwn_lt hbd.out) l5h.out hcnt.out.2 hcnt.out.1).mono ?_; rw [hzsh.out]; rintro e w6 ⟨v6, bs6, cs6, rfl, hg6, hgr6, hat6⟩; obtain ⟨a6, c6, rfl⟩ := hg6.len; have hgr6u : w5.grownBy w6 (some 0) ∨ True := Or.inr trivial; have hgs6 : Hid (Gs 29 base m w0 w w6 (.slice av xs.length capv) (.slice a6 zs.length c6) zs [.string (strT a), .slice (some ⟨ba, oa, none⟩) (kidsOf a).length cA] [.string (strT b), .slice (some ⟨bb, ob, none⟩) (kidsOf b).length cB] 26 (.slice apk p.length capk) p fp) := (hgs5.out.below hbd.out).grow hv9.out hfp9.out hz0 (by show _ ≤ w5.heap.size; omega) hgr6 ⟨bs6, cs6, hg6⟩ hat6; have z0 := hgs6.out.2.2.2.1.cell 1 rfl; have z2 := (hgs6.out.2.2.2.2.2.2.cell (p := ⟨ba, oa + j * 2, none⟩) hba.out).trans ka0.out; have z3 := (hgs6.out.2.2.2.2.2.2.cell (p := ⟨ba, oa + j * 2 + 1, none⟩) hba.out).trans ka1.out; have z1 := hgs6.out.2.2.2.2.1.cell 1 rfl; have z4 := (hgs6.out.2.2.2.2.2.2.cell (p := ⟨bb, ob + j * 2, none⟩) hbb.out).trans kb0.out; have z5 := (hgs6.out.2.2.2.2.2.2.cell (p := ⟨bb, ob + j * 2 + 1, none⟩) hbb.out).trans kb1.out; have hs6 : w5.heap.size ≤ w6.heap.size := hgr6.size; clear hg6 hgr6 hat6 hgV hgr6u))
        go_wp2_with fail
        go_roundw
        case rel => exact ⟨j + 1, a6, c6, zs, by omega, by go_num, rfl, (by show _ = _; rw [← hzsh.out, hys.out, hGJ2.out, List.append_assoc]), hgs6, by omega⟩
        case measure => simp [intOf]; omega
      · have hlaI : ¬ ((j : Int) < ((kidsOf a).length : Int)) := by omega
        have y1 := hgs5.out.2.2.2.2.1.cell 1 rfl; have y4 := (hgs5.out.2.2.2.2.2.2.cell (p := ⟨bb, ob + j * 2, none⟩) hbb.out).trans kb0.out; have y5 := (hgs5.out.2.2.2.2.2.2.cell (p := ⟨bb, ob + j * 2 + 1, none⟩) hbb.out).trans kb1.out
        go_wp2_with fail
        refine (cpS_all n _ 0 _ _ Y (TreeAt.keep (w := w0) hgs5.out.2.2.2.2.2.2.size (Nat.zero_le _) (fun x _ q => hgs5.out.2.2.2.2.2.2.block x q) n _ _ _ hY0.out) hRY.out).mono ?_
        rintro e1 w6 ⟨⟨cs9, ft, rfl, ho9, nd9, lo9⟩, hb6⟩
        obtain ⟨k9, rfl, hs9, _⟩ := ho9.opened
        obtain ⟨a9, c9, rfl⟩ := hs9.form
        have hb6h : Hid (Below wr.heap.size wr w6) := hb5h.out.trans (hb6.mono hb5h.out.size)
        have ho9h : Hid (EditO n w6 [.int .i64 1, .slice a5 pj.length c5, .string ⟨#[]⟩, .string (strT Y), .slice a9 (kidsOf Y).length c9] (insE pj Y) (f5 ++ ft)) := ⟨_, _, f5, ft, rfl, (by show InI (1 : Int); unfold InI; omega), o5h.out.below intOwn_stays intOwn_lt hb6, Nat.zero_le _, ho9, rfl, List.nodup_append.2 ⟨o5h.out.nodup, nd9, fun x hx y hy e => by have h1 := o5h.out.lt intOwn_lt x hx; have h2 := lo9 y hy; omega⟩⟩
        have lo9h : Hid (∀ x ∈ f5 ++ ft, wr.heap.size ≤ x) := fun x hx => by rcases List.mem_append.1 hx with q | q; (exact l5h.out x q); (have := lo9 x q; omega)
        clear ho9 nd9 lo9 hb6 hs9
        have hgs6 : Hid (Gs 29 base m w0 w w6 (.slice av xs.length capv) (.slice avj ys.length capj) ys [.string (strT a), .slice aA (kidsOf a).length cA] [.string (strT b), .slice (some ⟨bb, ob, none⟩) (kidsOf b).length cB] 26 (.slice apk p.length capk) p fp) := hgs.out.below hb6h.out
        have b57 : Hid (Below wr.heap.size wr (w6.alloc (.cells #[.int .i64 1, .slice a5 pj.length c5, .string ⟨#[]⟩, .string (strT Y), .slice a9 (kidsOf Y).length c9] 29))) := hb6h.out.alloc hb6h.out.size _
        have hnw : Hid (∀ i u, ([.int .i64 1, .slice a5 pj.length c5, .string ⟨#[]⟩, .string (strT Y), .slice a9 (kidsOf Y).length c9] : List Value)[i]? = some u → (w6.alloc (.cells #[.int .i64 1, .slice a5 pj.length c5, .string ⟨#[]⟩, .string (strT Y), .slice a9 (kidsOf Y).length c9] 29)).cell? ((⟨w6.heap.size, 0, none⟩ : Addr).add i) = some u) := fun i u hu => by rw [add_lit, Nat.zero_add]; exact (Box.new w6 [.int .i64 1, .slice a5 pj.length c5, .string ⟨#[]⟩, .string (strT Y), .slice a9 (kidsOf Y).length c9] 29).cell i hu
        have hone : Hid (∀ u ∈ ([.int .i64 1, .slice a5 pj.length c5, .string ⟨#[]⟩, .string (strT Y), .slice a9 (kidsOf Y).length c9] : List Value), u.oneCell' = true) := by intro u hu; simp only [List.mem_cons, List.not_mem_nil, or_false] at hu; rcases hu with rfl | rfl | rfl | rfl | rfl <;> rfl
        have hr7 : Hid (EditO m (w6.alloc (.cells #[.int .i64 1, .slice a5 pj.length c5, .string ⟨#[]⟩, .string (strT Y), .slice a9 (kidsOf Y).length c9] 29)) [.int .i64 1, .slice a5 pj.length c5, .string ⟨#[]⟩, .string (strT Y), .slice a9 (kidsOf Y).length c9] (insE pj Y) (f5 ++ ft)) := EditO_mono (by omega) (EditO_stays n _ _ _ _ _ (fun x hx => Below.heap_alloc _ _ _ (EditO_lt _ _ _ _ _ ho9h.out x hx)) ho9h.out)
        obtain ⟨⟨bs5, cs5, hg5⟩, _⟩ := hgs.out
        go_wp2_with (at_builtin; refine wpList_append_grow2 (EditO_stays m) rfl _ _ 44 rfl base iT _ 88 Try.underlying44 hiT.out heT.out.1 heT.out.2.1 heT.out.2.2 rfl (by decide) (w := wr) (w2 := (w6.alloc (.cells #[.int .i64 1, .slice a5 pj.length c5, .string ⟨#[]⟩, .string (strT Y), .slice a9 (kidsOf Y).length c9] 29))) (v := .slice avj ys.length capj) (xs := ys) rfl hg5 b57.out (by omega) ⟨w6.heap.size, 0, none⟩ 1 (cs := [.int .i64 1, .slice a5 pj.length c5, .string ⟨#[]⟩, .string (strT Y), .slice a9 (kidsOf Y).length c9]) (y := (insE pj Y)) (fs := (f5 ++ ft)) rfl rfl hnw.out hone.out hr7.out (EditO_nodup hr7.out) lo9h.out (EditO_lt _ _ _ _ _ hr7.out) (by unfold maxLen; omega) (by omega) ?_; intro g8 cap8 w8 hg8 hgr8 _ hat8; have hx8 : Hid (∃ bss css, GrowOwn 29 5 (EditO m) base w8 (.slice (some ⟨g8, 0, none⟩) (ys.length + 1) cap8) (ys ++ [(insE pj Y)]) bss css) := ⟨_, _, hg8⟩; have hgs8 : Hid (Gs 29 base m w0 w w8 (.slice av xs.length capv) (.slice (some ⟨g8, 0, none⟩) (ys.length + 1) cap8) (ys ++ [(insE pj Y)]) [.string (strT a), .slice aA (kidsOf a).length cA] [.string (strT b), .slice (some ⟨bb, ob, none⟩) (kidsOf b).length cB] 26 (.slice apk p.length capk) p fp) := (hgs6.out.below ((Below.refl _ _).alloc (Nat.le_refl _) _)).grow hv9.out hfp9.out hz0 (by have h2 := hb6h.out.size; simp only [World.size_alloc]; omega) hgr8 hx8.out (by rcases hat8 with q | q; (exact Or.inl q.symm); (exact Or.inr ⟨g8, rfl, by omega⟩)); have hs8 : w.heap.size + 2 ≤ w8.heap.size := (by have h1 := hgr8.size; have h2 := hb6h.out.size; simp only [World.size_alloc] at h1; omega); clear hg8 hgr8 hat8 hg5 hx8 b57 hnw hone hr7)
        go_wp2_with fail
        go_roundw
        case rel =>
          refine ⟨j + 1, some ⟨g8, 0, none⟩, cap8, ys ++ [insE pj Y], by omega, by go_num, by rw [List.length_append, List.length_singleton], ?_, ?_, by omega⟩
          · show _ = _; rw [hys.out, hGJ.out, if_neg hla, List.append_assoc]
          · have q := hgs8.out; show Gs _ _ _ _ _ _ _ _ _ _ _ _ _ _ _; rw [List.length_append, List.length_singleton]; exact q
        case measure => simp [intOf]; omega
    · obtain rfl : j = (kidsOf b).length := by omega
      go_wp2_with fail
      go_ret
      obtain ⟨⟨bs9, cs9, hg⟩, h2, h3, _⟩ := hgs.out
      have e9 := hys.out
      subst e9
      exact ⟨_, bs9, cs9, rfl, hg, h2, h3.imp id (fun ⟨g, e, q⟩ => ⟨g, e, by omega⟩)⟩
theorem RsS_all {w0 : World} {lo base m : Nat} : ∀ n, RsS w0 lo base m n := by
  intro n
  induction n with
  | zero => intro w wg ta ka tb kb kp vout a b p fp xs bss css h; exact h.elim
  | succ n ih => exact RsS_step n ih
end Go.Proofs.Ytndffcogddefiaa
