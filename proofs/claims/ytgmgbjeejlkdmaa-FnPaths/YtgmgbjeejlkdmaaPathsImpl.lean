/- appendPaths and PathsOf of the program, walked. -/
import Derived.Test.YtgmgbjeejlkdmaaPathsOfPlain
import Derived.Test.YtgmgbjeejlkdmaaIntsOwn
import Derived.Test.YtgmgbjeejlkdmaaGrowAppB
import Derived.Test.YtgmgbjeejlkdmaaPathTo
import Derived.Test.YtgmgbjeejlkdmaaOkWalks
import Derived.Test.YtgmgbjeejlkdmaaTakeLit
import Derived.Deep.RegionHeld3
namespace Go.Proofs.Ytgmgbjeejlkdmaa
open Go.RowKit
theorem infoIS : ((Try.prog.info? 30).map fun i => (i.zero, i.size, i.bytes)) = some (some (.slice none 0 0), 1, 24) := by kernel_rfl
/-- what stands in memory behind a call that told some paths more -/
def PathsAns (base : Nat) (w w' : World) (vout : Value) (e : Ending) (ys : List (List Int)) : Prop := ∃ (v : Value) (bss : List (List Nat)) (css : List (List Value)), e = .returned v ∧ GrowOwn 30 1 IntsOwn base w' v ys bss css ∧ w.grownBy w' vout.ownBlock ∧ (v.ownBlock = vout.ownBlock ∨ ∃ g, v.ownBlock = some g ∧ w.heap.size ≤ g)
def PaI (w0 : World) (lo base : Nat) (n : Nat) : Prop := ∀ (w wg : World) (t k kp vout : Value) (d : TD) (p : List Int) (fp : List Nat) (xs : List (List Int)) (bss : List (List Nat)) (css : List (List Value)), TreeAt w0 lo n t k d → RightT d → Below w0.heap.size w0 w → w0.heap.size ≤ base → base ≤ wg.heap.size →
    GrowOwn 30 1 IntsOwn base wg vout xs bss css → Below wg.heap.size wg w → SeqOwn 1 IntOwn w kp p fp → fp.Nodup → (∀ b ∈ fp, wg.heap.size ≤ b) → p.length + cntTree n d ≤ 100000 → xs.length + cntTree n d ≤ 100000 →
    Calls Try.prog 28 #[vout, .agg #[t, k], kp] w fun e w' => PathsAns base w w' vout e (xs ++ pathsD n d p)
set_option maxRecDepth 100000 in
set_option maxHeartbeats 8000000 in
theorem paI_step {w0 : World} {lo base : Nat} (n : Nat) (ih0 : PaI w0 lo base n) : PaI w0 lo base (n + 1) := by
  intro w wg t k kp vout d p fp xs bss css ht hR hB0 hbase hbg hgr hbw hp hnd hlo hpl hxl
  obtain ⟨rfl, hsz⟩ := ht.tag
  obtain ⟨_, a0, cap0, rfl⟩ := ht.form
  have ih : Hid (PaI w0 lo base n) := ih0
  have ht0 : Hid (TreeAt w0 lo (n + 1) _ _ d) := ht
  have hR' : Hid (RightT d) := hR
  have hfew : (kidsOf d).length ≤ 30 := hR.few
  have hB0' : Hid (Below w0.heap.size w0 w) := hB0
  have hgr' : Hid (GrowOwn 30 1 IntsOwn base wg vout xs bss css) := hgr
  have hbw' : Hid (Below wg.heap.size wg w) := hbw
  have hp' : Hid (SeqOwn 1 IntOwn w kp p fp) := hp
  have hfp : Hid (∀ b ∈ fp, wg.heap.size ≤ b ∧ b < w.heap.size) := fun b q => ⟨hlo b q, hp.lt intOwn_lt b q⟩
  have hvlt : Hid (∀ g, vout.ownBlock = some g → base ≤ g ∧ g < wg.heap.size) := fun g e => ⟨own_block2 hgr.2.2.2.1 g e, row_lt hgr.2.2.2.1 g e⟩
  have hwgw := hbw.size
  have hz0 := hB0.size
  have hcT : Hid (cntTree (n + 1) d = 1 + cntL (cntTree n) (kidsOf d)) := rfl
  have hpl1 : p.length ≤ 100000 := by omega
  have hxl1 : xs.length < 100000 := by have := hcT.out; omega
  obtain ⟨av, capv, rfl⟩ := hgr.len
  obtain ⟨apk, capk, rfl⟩ := hp.form
  obtain ⟨iT, hiT0, heT0, heT1, heT2⟩ := info_parts2 infoIS
  have hiT : Hid (Try.prog.info? 30 = some iT) := hiT0
  have heT : Hid (iT.zero = some (.slice none 0 0) ∧ iT.size = 1 ∧ iT.bytes = 24) := ⟨heT0, heT1, heT2⟩
  clear ih0 ht hR hsz hB0 hgr hbw hp hlo hiT0 heT0 heT1 heT2
  have hb2 : Hid (Below w.heap.size w ((w.alloc (.cells #[.string (strT d), .slice a0 (kidsOf d).length cap0] 26)).alloc (.cells #[.slice apk p.length capk] 30))) := ((Below.refl _ _).alloc (Nat.le_refl _) _).alloc (by simp) _
  have bA0 : Hid (Box ((w.alloc (.cells #[.string (strT d), .slice a0 (kidsOf d).length cap0] 26)).alloc (.cells #[.slice apk p.length capk] 30)) w.heap.size [.string (strT d), .slice a0 (kidsOf d).length cap0] 26) := (Box.new w _ _).alloc _
  have hz2 : ((w.alloc (.cells #[.string (strT d), .slice a0 (kidsOf d).length cap0] 26)).alloc (.cells #[.slice apk p.length capk] 30)).heap.size = w.heap.size + 2 := by simp
  have hp2 : Hid (SeqOwn 1 IntOwn ((w.alloc (.cells #[.string (strT d), .slice a0 (kidsOf d).length cap0] 26)).alloc (.cells #[.slice apk p.length capk] 30)) (.slice apk p.length capk) p fp) := hp'.out.below intOwn_stays intOwn_lt hb2.out
  have hbA0 : Hid ((Value.slice av xs.length capv).ownBlock ≠ some w.heap.size) := fun e => by have := hvlt.out _ e; omega
  go_enter Try.func28, Try.ntmps28
  go_wp2_with (at_builtin; refine wpList_append_grow2 IntsOwn_stays rfl _ _ 28 rfl base iT _ 24 Try.underlying28 hiT.out heT.out.1 heT.out.2.1 heT.out.2.2 rfl (by decide) rfl hgr'.out (hbw'.out.trans (hb2.out.mono hwgw)) hbg ⟨w.heap.size + 1, 0, none⟩ 1 (cs := [.slice apk p.length capk]) (y := p) (fs := fp) rfl rfl (by intro i u hu; match i, hu with | 0, hu => (simp at hu; subst hu; simp [Addr.add]) | i + 1, hu => simp at hu) (by intro u hu; simp at hu; subst hu; rfl) ⟨_, rfl, hp2.out⟩ hnd (fun b q => (hfp.out b q).1) (fun b q => by have := hfp.out b q; simp; omega) (by unfold maxLen; omega) (by omega) ?_; intro g capg w3 hgr3 hgrow3 hbel3 hat3; have cA1 := (box_grown bA0.out hgrow3 hbA0.out).cell 1 rfl)
  have hgrow3' : Hid (w.grownBy w3 (Value.slice av xs.length capv).ownBlock) := grown_trans2 (grown_ofB hb2.out) hgrow3 (fun _ e _ => e)
  have hat3' : Hid ((Value.slice av xs.length capv).ownBlock = some g ∨ w.heap.size + 2 ≤ g) := Or.elim hat3 Or.inl (fun e => Or.inr (by omega))
  have hbA : (Value.slice av xs.length capv).ownBlock ≠ some w.heap.size := fun e => by have := hvlt.out _ e; omega
  have hbF : ∀ b ∈ fp, (Value.slice av xs.length capv).ownBlock ≠ some b := fun b q e => by have h1 := hvlt.out _ e; have h2 := hfp.out b q; omega
  have bA3 : Hid (Box w3 w.heap.size [.string (strT d), .slice a0 (kidsOf d).length cap0] 26) := box_grown bA0.out hgrow3 hbA
  have hp3 : Hid (SeqOwn 1 IntOwn w3 (.slice apk p.length capk) p fp) := seqOwn_grown intOwn_stays intOwn_lt hp2.out hgrow3 hbF
  have hgr3' : Hid (GrowOwn 30 1 IntsOwn base w3 (.slice (some ⟨g, 0, none⟩) (xs.length + 1) capg) (xs ++ [p]) (bss ++ [fp]) (css ++ [[.slice apk p.length capk]])) := hgr3
  have hB3 : Hid (Below w0.heap.size w0 w3) := hB0'.out.trans ((below_of_grown hgrow3'.out hz0 (fun q e => by have := hvlt.out q e; omega)))
  clear hgr3 hgrow3 hbel3 hat3 bA0 hp2 hb2 hgr' hbA hbF cA1
  go_loopw [0, 16] (fun v i wr => ∃ (j gv capj : Nat) (bsj : List (List Nat)) (csj : List (List Value)), j ≤ (kidsOf d).length ∧ i = .int .i64 j ∧ v = .slice (some ⟨gv, 0, none⟩) (xs.length + 1 + (pathsJ n d p j).length) capj ∧ Hid (GrowOwn 30 1 IntsOwn base wr (.slice (some ⟨gv, 0, none⟩) (xs.length + 1 + (pathsJ n d p j).length) capj) (xs ++ [p] ++ pathsJ n d p j) bsj csj) ∧ Hid (w.grownBy wr (Value.slice av xs.length capv).ownBlock) ∧ Hid ((Value.slice av xs.length capv).ownBlock = some gv ∨ w.heap.size + 2 ≤ gv) ∧
      Hid (Box wr w.heap.size [.string (strT d), .slice a0 (kidsOf d).length cap0] 26) ∧ Hid (SeqOwn 1 IntOwn wr (.slice apk p.length capk) p fp) ∧ Hid (Below w0.heap.size w0 wr)) (fun _ i _ => (kidsOf d).length - (intOf i).toNat)
  case atStart => exact ⟨0, g, capg, _, _, by omega, rfl, by rw [pathsJ_zero]; rfl, by rw [pathsJ_zero, List.append_nil]; exact hgr3', hgrow3', hat3', bA3, hp3, hB3⟩
  case round =>
    obtain ⟨j, gv, capj, bsj, csj, hj, rfl, rfl, hgrj, hgroj, hatj, bAj, hpj, hBj⟩ := hrel
    have hlenx : Hid ((xs ++ [p] ++ pathsJ n d p j).length = xs.length + 1 + (pathsJ n d p j).length) := by show _ = _; simp; omega
    by_cases hlt : j < (kidsOf d).length
    · obtain ⟨bk, ok, t', k', rfl, hbk, k0, k1, htk⟩ := ht0.out.kid (p := j) hlt
      have hRK0 : Hid (RightT (nth (kidsOf d) j)) := hR'.out.nth hlt
      have hPJ : Hid (pathsJ n d p (j + 1) = pathsJ n d p j ++ pathsD n (nth (kidsOf d) j) (p ++ [(j : Int)])) := pathsJ_succ n d p j
      have hcnt : Hid ((pathsJ n d p j).length + cntTree n (nth (kidsOf d) j) ≤ cntL (cntTree n) (kidsOf d)) := by
        show _ ≤ _
        have e1 := pathsJ_le n d p (show j + 1 ≤ (kidsOf d).length from hlt)
        have e2 := pathsJ_len (pathsD_len n) d p _ (Nat.le_refl (kidsOf d).length)
        rw [hPJ.out, List.length_append, pathsD_len] at e1
        unfold cntL
        omega
      obtain ⟨rfl, _⟩ := htk.tag
      obtain ⟨_, a2, cap2, rfl⟩ := htk.form
      have htK0 : Hid (TreeAt w0 lo n (.string (strT (nth (kidsOf d) j))) (.slice a2 (kidsOf (nth (kidsOf d) j)).length cap2) (nth (kidsOf d) j)) := htk
      have z0 : wr.cell? ⟨bk, ok + j * 2, none⟩ = some _ := (hBj.out.cell (p := ⟨bk, ok + j * 2, none⟩) hbk).trans k0
      have z1 : wr.cell? ⟨bk, ok + j * 2 + 1, none⟩ = some _ := (hBj.out.cell (p := ⟨bk, ok + j * 2 + 1, none⟩) hbk).trans k1
      generalize hY : nth (kidsOf d) j = Y at hRK0 htK0 z0 z1 hPJ hcnt
      have hlt' : (j : Int) < ((kidsOf d).length : Int) := by omega
      have hj0 : (0 : Int) ≤ (j : Int) := by omega
      clear k0 k1 htk hY
      have hzr : w.heap.size + 1 ≤ wr.heap.size := bAj.out.lt
      have hglt : gv < wr.heap.size := row_lt hgrj.out.2.2.2.1 gv rfl
      go_wp2_with fail
      have hbV : Hid (Below wr.heap.size wr (wr.alloc (.cells #[.string (strT Y), .slice a2 (kidsOf Y).length cap2] 26))) := (Below.refl _ _).alloc (Nat.le_refl _) _
      have bAV : Hid (Box (wr.alloc (.cells #[.string (strT Y), .slice a2 (kidsOf Y).length cap2] 26)) w.heap.size [.string (strT d), .slice (some ⟨bk, ok, none⟩) (kidsOf d).length cap0] 26) := bAj.out.alloc _
      have bYV : Hid (Box (wr.alloc (.cells #[.string (strT Y), .slice a2 (kidsOf Y).length cap2] 26)) wr.heap.size [.string (strT Y), .slice a2 (kidsOf Y).length cap2] 26) := Box.new wr _ _
      have hgV : Hid (GrowOwn 30 1 IntsOwn base (wr.alloc (.cells #[.string (strT Y), .slice a2 (kidsOf Y).length cap2] 26)) (.slice (some ⟨gv, 0, none⟩) (xs.length + 1 + (pathsJ n d p j).length) capj) (xs ++ [p] ++ pathsJ n d p j) bsj csj) := hgrj.out.below IntsOwn_stays hbV.out
      have hpV : Hid (SeqOwn 1 IntOwn (wr.alloc (.cells #[.string (strT Y), .slice a2 (kidsOf Y).length cap2] 26)) (.slice apk p.length capk) p fp) := hpj.out.below intOwn_stays intOwn_lt hbV.out
      have hBV : Hid (Below w0.heap.size w0 (wr.alloc (.cells #[.string (strT Y), .slice a2 (kidsOf Y).length cap2] 26))) := hBj.out.alloc (hBj.out.size) _
      have hgoV : Hid (w.grownBy (wr.alloc (.cells #[.string (strT Y), .slice a2 (kidsOf Y).length cap2] 26)) (Value.slice av xs.length capv).ownBlock) := grown_trans2 hgroj.out (grown_ofB (r := none) hbV.out) (fun _ e _ => by cases e)
      have hzV : Hid ((wr.alloc (.cells #[.string (strT Y), .slice a2 (kidsOf Y).length cap2] 26)).heap.size = wr.heap.size + 1) := by show _ = _; simp
      generalize (wr.alloc (.cells #[.string (strT Y), .slice a2 (kidsOf Y).length cap2] 26)) = V at bAV bYV hgV hpV hBV hgoV hzV
      have y0 := bYV.out.cell 0 rfl
      have y1 := bYV.out.cell 1 rfl
      have hlY : wr.heap.size < V.heap.size := bYV.out.lt
      clear hbV z0 z1
      go_region_held3 (fun w' => w'.cell? ⟨wr.heap.size, 0, none⟩ = some (.string (strT Y)) ∧ w'.cell? ⟨wr.heap.size, 1, none⟩ = some (.slice a2 (kidsOf Y).length cap2)) (go_keep)
        (first | (go_at_call 45; refine (pathTo_any (lo := 0) (p := p) (by exact SeqAt.below intAt_stays (hpV.out.at intOwn_at (fun _ _ => Nat.zero_le _)) (Below.drew (Below.refl _ _))) (by omega) (by unfold InI; omega)).mono ?_; rintro e w5 ⟨⟨v5, rfl, hv5⟩, hb5⟩; have hb5' : Hid (Below V.heap.size V w5) := undrew hb5; have hv5' : Hid (AnsI V w5 v5 (p ++ [(j : Int)])) := hv5; have bY5 : Hid (Box w5 wr.heap.size _ _) := Box.below bYV.out hb5'.out hlY; have q0 := bY5.out.cell 0 rfl; have q1 := bY5.out.cell 1 rfl; clear hb5 hv5) | (go_at_call 28; obtain ⟨f5, o5, n5, l5⟩ := hv5'.out; refine (ih.out w5 V _ _ _ _ Y (p ++ [(j : Int)]) f5 (xs ++ [p] ++ pathsJ n d p j) bsj csj htK0.out hRK0.out (by exact hBV.out.trans (hb5'.out.mono hBV.out.size)) hbase (by have := hzV.out; omega) hgV.out hb5'.out o5 n5 l5 (by have := hcnt.out; have := hcT.out; simp; omega) (by have := hcnt.out; have := hcT.out; rw [hlenx.out]; omega)).mono ?_; rintro e w6 ⟨v6, bs6, cs6, rfl, hg6, hgr6, hat6⟩; have hg6' : Hid (GrowOwn 30 1 IntsOwn base w6 v6 (xs ++ [p] ++ pathsJ n d p j ++ pathsD n Y (p ++ [(j : Int)])) bs6 cs6) := hg6; have hgr6' : Hid (w5.grownBy w6 (some gv)) := hgr6; have hat6' : Hid (v6.ownBlock = some gv ∨ ∃ g, v6.ownBlock = some g ∧ w5.heap.size ≤ g) := hat6; have bY6 : Hid (Box w6 wr.heap.size _ _) := box_grown bY5.out hgr6'.out (fun e => by injection e with e; omega); have q2 := bY6.out.cell 0 rfl; have q3 := bY6.out.cell 1 rfl; clear hg6 hgr6 hat6))
      have hlen6 : Hid ((xs ++ [p] ++ pathsJ n d p j ++ pathsD n Y (p ++ [(j : Int)])).length = xs.length + 1 + (pathsJ n d p (j + 1)).length) := by show _ = _; rw [hPJ.out]; simp; omega
      obtain ⟨g6, cap6, rfl⟩ : ∃ g6 cap6, v6 = .slice (some ⟨g6, 0, none⟩) (xs.length + 1 + (pathsJ n d p (j + 1)).length) cap6 := by
        have ho := hg6'.out.2.2.2.1
        rw [hlen6.out] at ho
        rcases ho.2 with ⟨_, hn⟩ | ⟨g6, cap6, cur, e6, _⟩
        · omega
        · exact ⟨g6, cap6, e6⟩
      have hgn : ∀ q : Nat, (Value.slice av xs.length capv).ownBlock ≠ some q → q < w.heap.size + 2 → (some gv : Option Nat) ≠ some q := fun q h1 h2 e => by
        injection e with e
        subst e
        rcases hatj.out with h | h
        · exact h1 h
        · omega
      have hbA : (Value.slice av xs.length capv).ownBlock ≠ some w.heap.size := fun e => by have := hvlt.out _ e; omega
      have hbF : ∀ b ∈ fp, (Value.slice av xs.length capv).ownBlock ≠ some b := fun b q e => by have h1 := hvlt.out _ e; have h2 := hfp.out b q; omega
      have hz5 := hb5'.out.size
      have hVz := hzV.out
      go_wp2_with fail
      go_roundw
      case rel =>
        refine ⟨j + 1, g6, cap6, bs6, cs6, by omega, by go_num, rfl, ?_, ?_, ?_, ?_, ?_, ?_⟩
        · show GrowOwn _ _ _ _ _ _ _ _ _
          rw [hPJ.out, ← List.append_assoc]
          have := hg6'.out
          rw [hPJ.out] at this
          exact this
        · exact grown_trans2 (grown_trans2 hgoV.out (grown_ofB (r := none) hb5'.out) (fun _ e _ => by cases e)) hgr6'.out (fun q e hq => by injection e with e; subst e; rcases hatj.out with h | h; (exact h); omega)
        · show _ ∨ _
          rcases hat6'.out with h | ⟨q, h, hq⟩
          · simp only [Value.ownBlock, Option.some.injEq] at h
            rw [h]
            exact hatj.out
          · simp only [Value.ownBlock, Option.some.injEq] at h
            right
            omega
        · exact box_grown (bAV.out.below hb5'.out bAV.out.lt) hgr6'.out (hgn _ hbA (by omega))
        · exact seqOwn_grown intOwn_stays intOwn_lt (hpV.out.below intOwn_stays intOwn_lt hb5'.out) hgr6'.out (fun b q => hgn b (hbF b q) (by have := hfp.out b q; omega))
        · have h5 : Below w0.heap.size w0 w5 := hBV.out.trans (hb5'.out.mono hBV.out.size)
          exact h5.trans (below_of_grown hgr6'.out h5.size (fun q e => by injection e with e; subst e; have := own_block2 hgrj.out.2.2.2.1 gv rfl; omega))
      case measure => simp [intOf]; omega
    · obtain rfl : j = (kidsOf d).length := by omega
      go_wp2_with fail
      go_ret
      refine ⟨_, bsj, csj, rfl, ?_, hgroj.out, ?_⟩
      · rw [pathsD_succ]
        have := hgrj.out
        rw [List.append_assoc] at this
        exact this
      · rcases hatj.out with h | h
        · exact Or.inl h.symm
        · exact Or.inr ⟨gv, rfl, by omega⟩
theorem paI_all {w0 : World} {lo base : Nat} : ∀ n, PaI w0 lo base n := by
  intro n
  induction n with
  | zero => intro w wg t k kp vout d p fp xs bss css h; exact h.elim
  | succ n ih => exact paI_step n ih
end Go.Proofs.Ytgmgbjeejlkdmaa
