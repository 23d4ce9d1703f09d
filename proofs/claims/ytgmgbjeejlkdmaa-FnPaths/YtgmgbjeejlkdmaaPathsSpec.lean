/- l9Paths of the specification, walked. -/
import Derived.Test.YtgmgbjeejlkdmaaPathsImpl
import Derived.Test.YtgmgbjeejlkdmaaAppendInts
import Derived.Test.YtgmgbjeejlkdmaaTakeLit
import Derived.Deep.AppendLies
import Derived.Deep.AppendSrc
namespace Go.Proofs.Ytgmgbjeejlkdmaa
open Go.RowKit
theorem step_append_ints {P : Program} {w : World} {ops : Array Oper} {o : Oper} {a : Act} {K : Act → World → Prop} {Q : Exit → Act → World → Prop} {E : Prop} (hgd : o.guard = none) (s x : Operand) (t : TypeId)
    (ho : o.op = .call { callee := .builtin .append, args := #[s, x], argTypes := #[t, t] }) (base lo : Nat) (e : TypeId) (i : TypeInfo) (ht : P.underlying t = some (.slice e)) (hi : P.info? e = some i) (hz : i.zero = some (.int .i64 0)) (hsize : i.size = 1) (hby : i.bytes = 8)
    (v : Value) (n : Nat) (xs : List Value) (hs : a.eval s = v) (hv : v ≠ .slice none 0 0) (hown : w.ownsRow base e 1 v n xs) (k : Value) (ks : List Int) (hx : a.eval x = k) (hk : SeqAt 1 IntAt w lo k ks) (hl : n + ks.length ≤ 1099511627776) (hbase : base ≤ w.heap.size)
    (h : ∀ v' w', w'.ownsRow base e 1 v' (n + ks.length) (xs ++ ks.map fun n => .int .i64 n) → w.grownBy w' v.ownBlock → v' ≠ .slice none 0 0 → K (a.put o.dst v') w') : if Region.wanted o (yielded ops a.tmps) = true then Oper.wp P o a w K Q else E := by
  have hw : Region.wanted o (yielded ops a.tmps) = true := by simp [Region.wanted, hgd]
  rw [if_pos hw]
  obtain ⟨ka, kc, rfl, hm, hc⟩ := hk
  cases ka with
  | none =>
    have h0 : ks.length = 0 := by
      rcases Nat.eq_zero_or_pos ks.length with q | q
      · exact q
      · obtain ⟨b, off, e, _⟩ := hc q; cases e
    have hks : ks = [] := List.eq_nil_of_length_eq_zero h0
    subst hks
    have hown' := hown
    rcases hown.2 with ⟨q, _⟩ | ⟨g, cap, cur, rfl, hg, hh, q1, q2, q3, q4⟩
    · exact absurd q hv
    · have hsrc : Src P i.size t (.slice none 0 kc) 0 [] w := Src.ofNil w ht kc
      have hrun := run_append_room_src (P := P) w t t o.type e i ht hi g 0 n cap (.slice none 0 kc) 0 [] hsrc (by omega) (by simp) (by simp)
      have hset : w.setCells g (0 + n * i.size) [] = w := rfl
      rw [hset] at hrun
      unfold Oper.wp
      simp only [List.length_nil] at hx
      simp [execOp, ho, resolve, invoke, builtin, hs, hx, hrun, Result.andThen]
      exact h _ w (by simpa using hown') ⟨rfl, rfl, rfl, Nat.le_refl _, fun _ _ _ => rfl⟩ (by simp)
  | some ad =>
    refine wp_append_own w s x t ho base e i (.int .i64 0) 1 8 ht hi hz hsize hby rfl (by decide) v n xs hs hown ad ks.length kc (ks.map fun n => .int .i64 n) hx (by simp) (fun j u hj => ?_) (fun u hu => ?_) (by unfold maxLen; omega) (by omega) hbase (fun v' w' h1 h2 h3 => ?_)
    · have hj' : j < ks.length := by
        rcases Nat.lt_or_ge j ks.length with q | q
        · exact q
        · rw [List.getElem?_eq_none (by simpa using q)] at hj; cases hj
      obtain ⟨b, off, q, _, _, hcc⟩ := hc (by omega)
      injection q with q
      subst q
      obtain ⟨cs, hcl, lie, hr⟩ := hcc j hj'
      obtain ⟨rfl, _⟩ := hr
      have z := lie 0 (by simp)
      simp only [List.getElem?_cons_zero, Nat.add_zero, Nat.mul_one] at z
      rw [List.getElem?_map, List.getElem?_eq_getElem hj'] at hj
      simp only [Option.map_some, Option.some.injEq] at hj
      rw [← hj]
      unfold Addr.add
      by_cases e0 : j = 0
      · subst e0; simpa using z
      · rw [if_neg e0]; exact z
    · obtain ⟨q, _, rfl⟩ := List.mem_map.1 hu
      rfl
    · exact h v' w' h1 h2 (fun q => hv (h3.1 q).1)
def PaS (w0 : World) (lo base : Nat) (n : Nat) : Prop := ∀ (w : World) (t k kp vout : Value) (d : TD) (p : List Int) (fp : List Nat) (xs : List (List Int)) (bss : List (List Nat)) (css : List (List Value)), TreeAt w0 lo n t k d → RightT d → Below w0.heap.size w0 w → w0.heap.size ≤ base → base ≤ w.heap.size →
    GrowOwn 30 1 IntsOwn base w vout xs bss css → SeqOwn 1 IntOwn w kp p fp → (∀ b ∈ fp, vout.ownBlock ≠ some b) → p.length + cntTree n d ≤ 100000 → xs.length + cntTree n d ≤ 100000 →
    Calls Try.prog 34 #[.agg #[t, k], kp, vout] w fun e w' => PathsAns base w w' vout e (xs ++ pathsD n d p)
set_option maxRecDepth 100000 in
set_option maxHeartbeats 16000000 in
theorem paS_step {w0 : World} {lo base : Nat} (n : Nat) (ih0 : PaS w0 lo base n) : PaS w0 lo base (n + 1) := by
  intro w t k kp vout d p fp xs bss css ht hR hB0 hbase hbg hgr hp hnf hpl hxl
  obtain ⟨rfl, hsz⟩ := ht.tag
  obtain ⟨_, a0, cap0, rfl⟩ := ht.form
  have ih : Hid (PaS w0 lo base n) := ih0
  have ht0 : Hid (TreeAt w0 lo (n + 1) _ _ d) := ht
  have hR' : Hid (RightT d) := hR
  have hfew : (kidsOf d).length ≤ 30 := hR.few
  have hB0' : Hid (Below w0.heap.size w0 w) := hB0
  have hgr' : Hid (GrowOwn 30 1 IntsOwn base w vout xs bss css) := hgr
  have hp' : Hid (SeqOwn 1 IntOwn w kp p fp) := hp
  have hfp : Hid (∀ b ∈ fp, b < w.heap.size) := hp.lt intOwn_lt
  have hnf' : Hid (∀ b ∈ fp, vout.ownBlock ≠ some b) := hnf
  have hvlt : Hid (∀ g, vout.ownBlock = some g → base ≤ g ∧ g < w.heap.size) := fun g e => ⟨own_block2 hgr.2.2.2.1 g e, row_lt hgr.2.2.2.1 g e⟩
  have hz0 := hB0.size
  have hcT : Hid (cntTree (n + 1) d = 1 + cntL (cntTree n) (kidsOf d)) := rfl
  have hpl1 : p.length ≤ 100000 := by omega
  have hxl1 : xs.length < 100000 := by have := hcT.out; omega
  have hIp : Hid (∀ x ∈ p, InI x) := fun x hx => by
    obtain ⟨i, hi, rfl⟩ := List.getElem_of_mem hx
    have hpat := hp.at (lo := 0) intOwn_at (fun _ _ => Nat.zero_le _)
    obtain ⟨a, cap, _, _, hpx⟩ := hpat
    obtain ⟨b, off, _, _, _, hc⟩ := hpx (by omega)
    obtain ⟨cs, _, _, hr⟩ := hc i hi
    exact hr.2
  obtain ⟨av, capv, rfl⟩ := hgr.len
  obtain ⟨apk, capk, rfl⟩ := hp.form
  obtain ⟨iT, hiT0, heT0, heT1, heT2⟩ := info_parts2 infoIS
  have hiT : Hid (Try.prog.info? 30 = some iT) := hiT0
  have heT : Hid (iT.zero = some (.slice none 0 0) ∧ iT.size = 1 ∧ iT.bytes = 24) := ⟨heT0, heT1, heT2⟩
  obtain ⟨iI, hiI0, heI0, heI1, heI2⟩ := info_parts2 infoI
  have hiI : Hid (Try.prog.info? 2 = some iI) := hiI0
  have heI : Hid (iI.zero = some (.int .i64 0) ∧ iI.size = 1 ∧ iI.bytes = 8) := ⟨heI0, heI1, heI2⟩
  clear ih0 ht hR hsz hB0 hgr hp hnf hiT0 heT0 heT1 heT2 hiI0 heI0 heI1 heI2
  have hb2 : Hid (Below w.heap.size w ((w.alloc (.cells #[.string (strT d), .slice a0 (kidsOf d).length cap0] 26)).alloc (.cells #[] 2))) := ((Below.refl _ _).alloc (Nat.le_refl _) _).alloc (by simp) _
  have hz2 : ((w.alloc (.cells #[.string (strT d), .slice a0 (kidsOf d).length cap0] 26)).alloc (.cells #[] 2)).heap.size = w.heap.size + 2 := by simp
  have bA0 : Hid (Box ((w.alloc (.cells #[.string (strT d), .slice a0 (kidsOf d).length cap0] 26)).alloc (.cells #[] 2)) w.heap.size [.string (strT d), .slice a0 (kidsOf d).length cap0] 26) := (Box.new w _ _).alloc _
  have hpA2 : Hid (SeqAt 1 IntAt ((w.alloc (.cells #[.string (strT d), .slice a0 (kidsOf d).length cap0] 26)).alloc (.cells #[] 2)) 0 (.slice apk p.length capk) p) := SeqAt.below intAt_stays (hp'.out.at (lo := 0) intOwn_at (fun _ _ => Nat.zero_le _)) hb2.out
  have hp2 : Hid (SeqOwn 1 IntOwn ((w.alloc (.cells #[.string (strT d), .slice a0 (kidsOf d).length cap0] 26)).alloc (.cells #[] 2)) (.slice apk p.length capk) p fp) := hp'.out.below intOwn_stays intOwn_lt hb2.out
  have row2 : Hid (((w.alloc (.cells #[.string (strT d), .slice a0 (kidsOf d).length cap0] 26)).alloc (.cells #[] 2)).ownsRow (w.heap.size + 1) 2 1 (.slice (some ⟨w.heap.size + 1, 0, none⟩) 0 0) 0 []) := by
    have := row_start (w := (w.alloc (.cells #[.string (strT d), .slice a0 (kidsOf d).length cap0] 26))) (B := w.heap.size + 1) (by simp)
    simpa only [World.size_alloc, Hid] using this
  have hbA0 : Hid ((Value.slice av xs.length capv).ownBlock ≠ some w.heap.size) := fun e => by have := hvlt.out _ e; omega
  go_enter Try.func34, Try.ntmps34
  go_wp2_with (first | (at_builtin; refine wpList_append_ints rfl _ _ 30 rfl (w.heap.size + 1) 0 2 iI Try.underlying30 hiI.out heI.out.1 heI.out.2.1 heI.out.2.2 (.slice (some ⟨w.heap.size + 1, 0, none⟩) 0 0) 0 [] rfl (by simp) row2.out _ p rfl hpA2.out (by omega) (by simp) ?_; intro v1 w2 hown1 hgrow1 hnn1; have row1 : Hid (w2.ownsRow (w.heap.size + 1) 2 1 v1 p.length (p.map fun n => Value.int .i64 n)) := (by show World.ownsRow _ _ _ _ _ _ _; have := hown1; rw [Nat.zero_add, List.nil_append] at this; exact this); obtain ⟨g1, cap1, rfl⟩ := nonnil_row row1.out hnn1; have hgrow1' : Hid (World.grownBy ((w.alloc (.cells #[.string (strT d), .slice a0 (kidsOf d).length cap0] 26)).alloc (.cells #[] 2)) w2 (some (w.heap.size + 1))) := hgrow1; have hb2w : Hid (Below w.heap.size w w2) := Below.grown hb2.out hgrow1 (by rw [hz2]; omega) (fun k e => by simp only [Value.ownBlock, Option.some.injEq] at e; omega); have sq1 : Hid (∃ f1, SeqOwn 1 IntOwn w2 (.slice (some ⟨g1, 0, none⟩) p.length cap1) p f1 ∧ ∀ b ∈ f1, w.heap.size + 1 ≤ b) := seqOwn_of_row row1.out hIp.out; obtain ⟨f1, sqa, sqb⟩ := sq1.out; have sqa' : Hid (SeqOwn 1 IntOwn w2 (.slice (some ⟨g1, 0, none⟩) p.length cap1) p f1) := sqa; have sqb' : Hid (∀ b ∈ f1, w.heap.size + 1 ≤ b) := sqb; have hzw2 : w.heap.size + 2 ≤ w2.heap.size := (by have := hgrow1.size; rw [hz2] at this; exact this); clear hown1 hgrow1 hnn1 sq1 sqa sqb) | (at_builtin; refine wpList_append_grow2 IntsOwn_stays rfl _ _ 28 rfl base iT _ 24 Try.underlying28 hiT.out heT.out.1 heT.out.2.1 heT.out.2.2 rfl (by decide) rfl hgr'.out (hb2w.out.alloc hb2w.out.size _) hbg ⟨w2.heap.size, 0, none⟩ 1 (cs := [.slice (some ⟨g1, 0, none⟩) p.length cap1]) (y := p) (fs := f1) rfl rfl (by intro i u hu; match i, hu with | 0, hu => (simp at hu; subst hu; simp [Addr.add]) | i + 1, hu => simp at hu) (by intro u hu; simp at hu; subst hu; rfl) ⟨_, rfl, sqa'.out.below intOwn_stays intOwn_lt ((Below.refl _ _).alloc (Nat.le_refl _) _)⟩ sqa'.out.nodup (fun b q => by have := sqb'.out b q; omega) (fun b q => by have := sqa'.out.lt intOwn_lt b q; simp; omega) (by unfold maxLen; omega) (by omega) ?_; intro g capg w3 hgr3 hgrow3 hbel3 hat3))
  have hgrow3' : Hid (w.grownBy w3 (Value.slice av xs.length capv).ownBlock) := grown_trans2 (grown_ofB (hb2w.out.alloc hb2w.out.size _)) hgrow3 (fun _ e _ => e)
  have hat3' : Hid ((Value.slice av xs.length capv).ownBlock = some g ∨ w.heap.size + 2 ≤ g) := Or.elim hat3 Or.inl (fun e => Or.inr (by simp only [World.size_alloc] at e; omega))
  have bA3 : Hid (Box w3 w.heap.size [.string (strT d), .slice a0 (kidsOf d).length cap0] 26) := box_grown ((box_grown bA0.out hgrow1'.out (fun e => by injection e with e; omega)).alloc _) hgrow3 hbA0.out
  have hp3 : Hid (SeqOwn 1 IntOwn w3 (.slice apk p.length capk) p fp) := seqOwn_grown intOwn_stays intOwn_lt (SeqOwn.below intOwn_stays intOwn_lt (seqOwn_grown intOwn_stays intOwn_lt hp2.out hgrow1'.out (fun b q e => by injection e with e; have := hfp.out b q; omega)) ((Below.refl _ _).alloc (Nat.le_refl _) _)) hgrow3 hnf'.out
  have hgr3' : Hid (GrowOwn 30 1 IntsOwn base w3 (.slice (some ⟨g, 0, none⟩) (xs.length + 1) capg) (xs ++ [p]) (bss ++ [f1]) (css ++ [[.slice (some ⟨g1, 0, none⟩) p.length cap1]])) := hgr3
  have hB3 : Hid (Below w0.heap.size w0 w3) := hB0'.out.trans ((below_of_grown hgrow3'.out hz0 (fun q e => by have := hvlt.out q e; omega)))
  have hz3 : w.heap.size + 2 ≤ w3.heap.size := by have := hgrow3.size; simp only [World.size_alloc] at this; omega
  clear hgr3 hgrow3 hbel3 hat3 bA0 hp2 hb2 hgr' hpA2 row2 row1 hgrow1' hb2w sqa' sqb'
  go_loopw [2, 7] (fun v i wr => ∃ (j gv capj : Nat) (bsj : List (List Nat)) (csj : List (List Value)), j ≤ (kidsOf d).length ∧ i = .int .i64 j ∧ v = (.slice (some ⟨gv, 0, none⟩) (xs.length + 1 + (pathsJ n d p j).length) capj) ∧ Hid (GrowOwn 30 1 IntsOwn base wr (.slice (some ⟨gv, 0, none⟩) (xs.length + 1 + (pathsJ n d p j).length) capj) (xs ++ [p] ++ pathsJ n d p j) bsj csj) ∧ Hid (w.grownBy wr (Value.slice av xs.length capv).ownBlock) ∧ Hid ((Value.slice av xs.length capv).ownBlock = some gv ∨ w.heap.size + 2 ≤ gv) ∧
      Hid (Box wr w.heap.size [.string (strT d), .slice a0 (kidsOf d).length cap0] 26) ∧ Hid (SeqOwn 1 IntOwn wr (.slice apk p.length capk) p fp) ∧ Hid (Below w0.heap.size w0 wr) ∧ w.heap.size + 2 ≤ wr.heap.size) (fun _ i _ => (kidsOf d).length - (intOf i).toNat)
  case atStart => exact ⟨0, g, capg, _, _, by omega, rfl, by rw [pathsJ_zero]; rfl, by rw [pathsJ_zero, List.append_nil]; exact hgr3', hgrow3', hat3', bA3, hp3, hB3, hz3⟩
  case round =>
    obtain ⟨j, gv, capj, bsj, csj, hj, rfl, rfl, hgrj, hgroj, hatj, bAj, hpj, hBj, hzr2⟩ := hrel
    have hlenx : Hid ((xs ++ [p] ++ pathsJ n d p j).length = xs.length + 1 + (pathsJ n d p j).length) := by show _ = _; simp; omega
    have cA1 := bAj.out.cell 1 rfl
    by_cases hlt : j < (kidsOf d).length
    · obtain ⟨bk, ok, t', k', rfl, hbk, k0, k1, htk⟩ := ht0.out.kid (p := j) hlt
      have hRK0 : Hid (RightT (nth (kidsOf d) j)) := hR'.out.nth hlt
      have hPJ : Hid (pathsJ n d p (j + 1) = pathsJ n d p j ++ pathsD n (nth (kidsOf d) j) (p ++ [(j : Int)])) := pathsJ_succ n d p j
      have hcnt : Hid ((pathsJ n d p j).length + cntTree n (nth (kidsOf d) j) ≤ cntL (cntTree n) (kidsOf d)) := by
        show _ ≤ _
        have e1 := pathsJ_le n d p (show j + 1 ≤ (kidsOf d).length from hlt)
        have e2 := pathsJ_len (pathsD_len n) d p _ (Nat.le_refl (kidsOf d).length)
        rw [hPJ.out, List.length_append, pathsD_len] at e1
        unfold cntL
        omega
      obtain ⟨rfl, _⟩ := htk.tag
      obtain ⟨_, a2, cap2, rfl⟩ := htk.form
      have htK0 : Hid (TreeAt w0 lo n (.string (strT (nth (kidsOf d) j))) (.slice a2 (kidsOf (nth (kidsOf d) j)).length cap2) (nth (kidsOf d) j)) := htk
      have z0 : wr.cell? ⟨bk, ok + j * 2, none⟩ = some _ := (hBj.out.cell (p := ⟨bk, ok + j * 2, none⟩) hbk).trans k0
      have z1 : wr.cell? ⟨bk, ok + j * 2 + 1, none⟩ = some _ := (hBj.out.cell (p := ⟨bk, ok + j * 2 + 1, none⟩) hbk).trans k1
      generalize hY : nth (kidsOf d) j = Y at hRK0 htK0 z0 z1 hPJ hcnt
      have hRY : Hid (RightT Y) := hRK0
      have htY : Hid (TreeAt w0 lo n (.string (strT Y)) (.slice a2 (kidsOf Y).length cap2) Y) := htK0
      have hlt' : (j : Int) < ((kidsOf d).length : Int) := by omega
      have hj0 : (0 : Int) ≤ (j : Int) := by omega
      clear k0 k1 htk hY hRK0 htK0
      have hzr : w.heap.size + 1 ≤ wr.heap.size := bAj.out.lt
      have hglt : gv < wr.heap.size := row_lt hgrj.out.2.2.2.1 gv rfl
      have hpA : Hid (SeqAt 1 IntAt wr 0 (.slice apk p.length capk) p) := hpj.out.at (lo := 0) intOwn_at (fun _ _ => Nat.zero_le _)
      have hgnA : Hid ((some gv : Option Nat) ≠ some w.heap.size) := fun e => by
        injection e with e
        rcases hatj.out with h | h
        · have := hvlt.out _ h; omega
        · omega
      have hgnF : Hid (∀ b ∈ fp, (some gv : Option Nat) ≠ some b) := fun b q e => by
        injection e with e
        subst e
        rcases hatj.out with h | h
        · exact hnf'.out _ q h
        · have := hfp.out _ q; omega
      go_wp2_with fail
      refine wp_region_held_drew (S := fun w' => w'.cell? ⟨w.heap.size, 1, none⟩ = some (.slice (some ⟨bk, ok, none⟩) (kidsOf d).length cap0) ∧ w'.cell? ⟨bk, ok + j * 2, none⟩ = some (.string (strT Y)) ∧ w'.cell? ⟨bk, ok + j * 2 + 1, none⟩ = some (.slice a2 (kidsOf Y).length cap2)) (by kernel_rfl) ⟨cA1, z0, z1⟩ (fun hHeld => ?_)
      refine take_lit (i := 0) (d := 21) (v := ?_) rfl rfl (by kernel_rfl) (by kernel_rfl) (by kernel_rfl) (fun _ _ _ h => h) (Or.inl ⟨by rfl, ?_⟩) (by assumption) ?_
      rotate_left
      · (intro w hSw; (try dsimp only at hSw); first | (go_simp; done) | (go_simp; with_reducible rfl))
      simp only [List.set_cons_zero, List.set_cons_succ]
      refine take_lit (i := 1) (d := 22) (v := ?_) rfl rfl (by kernel_rfl) (by kernel_rfl) (by kernel_rfl) (fun _ _ _ h => h) (Or.inl ⟨by rfl, ?_⟩) (by assumption) ?_
      rotate_left
      · (intro w hSw; (try dsimp only at hSw); first | (go_simp; done) | (go_simp; with_reducible rfl))
      simp only [List.set_cons_zero, List.set_cons_succ]
      refine take_lit (i := 2) (d := 23) (v := ?_) rfl rfl (by kernel_rfl) (by kernel_rfl) (by kernel_rfl) (fun _ _ _ h => h) (Or.inl ⟨by rfl, ?_⟩) (by assumption) ?_
      rotate_left
      · (intro w hSw; (try dsimp only at hSw); first | (go_simp; done) | (go_simp; with_reducible rfl))
      simp only [List.set_cons_zero, List.set_cons_succ]
      refine take_lit (i := 3) (d := 24) (v := ?_) rfl rfl (by kernel_rfl) (by kernel_rfl) (by kernel_rfl) (fun _ _ _ h => h) (Or.inl ⟨by rfl, ?_⟩) (by assumption) ?_
      rotate_left
      · (intro w hSw; (try dsimp only at hSw); first | (go_simp; done) | (go_simp; with_reducible rfl))
      simp only [List.set_cons_zero, List.set_cons_succ]
      refine take_lit (i := 4) (d := 25) (v := ?_) rfl rfl (by kernel_rfl) (by kernel_rfl) (by kernel_rfl) (fun _ _ _ h => h) (Or.inl ⟨by rfl, ?_⟩) (by assumption) ?_
      rotate_left
      · (intro w hSw; (try dsimp only at hSw); first | (go_simp; done) | (go_simp; with_reducible rfl))
      simp only [List.set_cons_zero, List.set_cons_succ]
      refine take_lit (i := 6) (d := 27) (v := ?_) rfl rfl (by kernel_rfl) (by kernel_rfl) (by kernel_rfl) (fun _ _ _ h => h) (Or.inl ⟨by rfl, ?_⟩) (by assumption) ?_
      rotate_left
      · (intro w hSw; (try dsimp only at hSw); first | (go_simp; done) | (go_simp; with_reducible rfl))
      simp only [List.set_cons_zero, List.set_cons_succ]
      refine take_lit (i := 8) (d := 29) (v := ?_) rfl rfl (by kernel_rfl) (by kernel_rfl) (by kernel_rfl) (fun _ _ _ h => h) (Or.inl ⟨by rfl, ?_⟩) (by assumption) ?_
      rotate_left
      · (intro w hSw; (try dsimp only at hSw); first | (go_simp; done) | (go_simp; with_reducible rfl))
      simp only [List.set_cons_zero, List.set_cons_succ]
      refine take_lit (i := 11) (d := 32) (v := ?_) rfl rfl (by kernel_rfl) (by kernel_rfl) (by kernel_rfl) (fun _ _ _ h => h) (Or.inl ⟨by rfl, ?_⟩) (by assumption) ?_
      rotate_left
      · (intro w hSw; (try dsimp only at hSw); first | (go_simp; done) | (go_simp; with_reducible rfl))
      simp only [List.set_cons_zero, List.set_cons_succ]
      refine wpAnyH_ready (rs := [5, 9]) (by kernel_rfl) (by simp) ?_
      refine (AllReadyH.cons rfl (fun K hK => ?_) (AllReadyH.cons rfl (fun K hK => ?_) AllReadyH.nil))
      · have hb5 : Hid (Below wr.heap.size wr (wr.drew.alloc (.cells #[] 2))) := Below.alloc (Below.drew (Below.refl wr.heap.size wr)) (Below.size (Below.drew (Below.refl wr.heap.size wr))) _
        have row5 : Hid ((wr.drew.alloc (.cells #[] 2)).ownsRow wr.heap.size 2 1 (.slice (some ⟨wr.heap.size, 0, none⟩) 0 0) 0 []) := by have := row_start (w := wr.drew) (B := wr.heap.size) (Below.size (Below.drew (Below.refl wr.heap.size wr))); exact this
        have hg5 : wr.heap.size ≤ wr.heap.size := by omega
        go_simp
        refine hK.out _ _ ⟨cell_on ((Below.refl _ _).alloc (Nat.le_refl _) _) hHeld.1, cell_on ((Below.refl _ _).alloc (Nat.le_refl _) _) hHeld.2.1, cell_on ((Below.refl _ _).alloc (Nat.le_refl _) _) hHeld.2.2⟩ (fun hHeld => ?_)
        clear hK K
        refine wpAnyH_ready (rs := [7, 9]) (by kernel_rfl) (by simp) ?_
        refine (AllReadyH.cons rfl (fun K hK => ?_) (AllReadyH.cons rfl (fun K hK => ?_) AllReadyH.nil))
        · refine step_append_ints (w := (wr.drew.alloc (.cells #[] 2))) rfl _ _ 30 rfl wr.heap.size 0 2 iI Try.underlying30 hiI.out heI.out.1 heI.out.2.1 heI.out.2.2 (.slice (some ⟨wr.heap.size, 0, none⟩) 0 0) 0 [] rfl (by simp) (by exact row5.out) (.slice apk p.length capk) p rfl (by exact SeqAt.below intAt_stays hpA.out hb5.out) (by omega) (by exact Below.size hb5.out) ?_
          intro v7 w7 hown7 hgrow7 hnn7
          have row7 : Hid (w7.ownsRow wr.heap.size 2 1 v7 p.length (p.map fun n => Value.int .i64 n)) := by show World.ownsRow _ _ _ _ _ _ _; have := hown7; rw [Nat.zero_add, List.nil_append] at this; exact this
          obtain ⟨g7, cap7, rfl⟩ := nonnil_row row7.out hnn7
          have hb7 : Hid (Below wr.heap.size wr w7) := Below.grown hb5.out hgrow7 (Below.size hb5.out) (fun k e => own_block2 row5.out k e)
          have hbb7 : Below wr.heap.size (wr.drew.alloc (.cells #[] 2)) w7 := below_of_grown hgrow7 (Below.size hb5.out) (fun k e => own_block2 row5.out k e)
          go_simp
          refine hK.out _ _ ⟨(hbb7.cell (p := ⟨w.heap.size, 1, none⟩) (by show w.heap.size < _; omega)).trans hHeld.1, (hbb7.cell (p := ⟨bk, ok + j * 2, none⟩) (by show bk < _; omega)).trans hHeld.2.1, (hbb7.cell (p := ⟨bk, ok + j * 2 + 1, none⟩) (by show bk < _; omega)).trans hHeld.2.2⟩ (fun hHeld => ?_)
          clear hK K
          refine wpAnyH_ready (rs := [9]) (by kernel_rfl) (by simp) ?_
          refine AllReadyH.cons rfl (fun K hK => ?_) AllReadyH.nil
          have hb9 : Hid (Below wr.heap.size wr (w7.alloc (.cells #[.int .i64 (j : Int)] 2))) := Below.alloc hb7.out (Below.size hb7.out) _
          have bx9 : Hid (Box (w7.alloc (.cells #[.int .i64 (j : Int)] 2)) (w7.heap.size) [.int .i64 (j : Int)] 2) := by have := Box.new w7 [.int .i64 (j : Int)] 2; exact this
          have row9 : Hid ((w7.alloc (.cells #[.int .i64 (j : Int)] 2)).ownsRow wr.heap.size 2 1 (.slice (some ⟨g7, 0, none⟩) p.length cap7) p.length (p.map fun n => Value.int .i64 n)) := row_below row7.out ((Below.refl _ _).alloc (Nat.le_refl _) _)
          go_simp
          refine hK.out _ _ ⟨cell_on ((Below.refl _ _).alloc (Nat.le_refl _) _) hHeld.1, cell_on ((Below.refl _ _).alloc (Nat.le_refl _) _) hHeld.2.1, cell_on ((Below.refl _ _).alloc (Nat.le_refl _) _) hHeld.2.2⟩ (fun hHeld => ?_)
          clear hK K
          refine wpAnyH_ready (rs := [10]) (by kernel_rfl) (by simp) ?_
          refine AllReadyH.cons rfl (fun K hK => ?_) AllReadyH.nil
          refine step_append_lies (w7.alloc (.cells #[.int .i64 (j : Int)] 2)) rfl _ _ 30 rfl wr.heap.size 2 iI _ 1 8 Try.underlying30 hiI.out heI.out.1 heI.out.2.1 heI.out.2.2 rfl (by decide) (.slice (some ⟨g7, 0, none⟩) p.length cap7) p.length (p.map fun n => Value.int .i64 n) rfl row9.out ⟨w7.heap.size, 0, none⟩ 1 1 [.int .i64 (j : Int)] rfl rfl (by intro i u hu; match i, hu with | 0, hu => (simp at hu; subst hu; exact bx9.out.cell 0 rfl) | i + 1, hu => simp at hu) (by intro u hu; simp at hu; subst hu; rfl) (by omega) (by unfold maxLen; omega) (by omega) (by exact Below.size hb9.out) _ rfl ?_
          intro g10 cap10 w10 hown10 hgrow10 hat10 hlt10
          have hb10 : Hid (Below wr.heap.size wr w10) := Below.grown hb9.out hgrow10 (Below.size hb9.out) (fun k e => own_block2 row9.out k e)
          have hbb10 : Below wr.heap.size (w7.alloc (.cells #[.int .i64 (j : Int)] 2)) w10 := below_of_grown hgrow10 (Below.size hb9.out) (fun k e => own_block2 row9.out k e)
          have row10 : Hid (w10.ownsRow wr.heap.size 2 1 (.slice (some ⟨g10, 0, none⟩) (p.length + 1) cap10) (p ++ [(j : Int)]).length ((p ++ [(j : Int)]).map fun n => Value.int .i64 n)) := by show World.ownsRow _ _ _ _ _ _ _; rw [List.length_append, List.map_append]; exact hown10
          go_simp
          refine hK.out _ _ ⟨(hbb10.cell (p := ⟨w.heap.size, 1, none⟩) (by show w.heap.size < _; omega)).trans hHeld.1, (hbb10.cell (p := ⟨bk, ok + j * 2, none⟩) (by show bk < _; omega)).trans hHeld.2.1, (hbb10.cell (p := ⟨bk, ok + j * 2 + 1, none⟩) (by show bk < _; omega)).trans hHeld.2.2⟩ (fun hHeld => ?_)
          clear hK K
          refine wpAnyH_ready (rs := [12]) (by kernel_rfl) (by simp) ?_
          refine AllReadyH.cons rfl (fun K hK => ?_) AllReadyH.nil
          go_simp
          obtain ⟨f10, o10, l10⟩ := seqOwn_of_row row10.out (fun x hx => by rcases List.mem_append.1 hx with q | q; (exact hIp.out x q); (simp at q; subst q; unfold InI; omega))
          refine (ih.out w10 _ _ _ _ Y (p ++ [(j : Int)]) f10 (xs ++ [p] ++ pathsJ n d p j) bsj csj htY.out hRY.out (by exact hBj.out.trans (hb10.out.mono hBj.out.size)) hbase (by have := hb10.out.size; omega) (by exact hgrj.out.below IntsOwn_stays hb10.out) o10 (fun b q e => by have h1 := l10 b q; simp only [Value.ownBlock, Option.some.injEq] at e; omega) (by have := hcnt.out; have := hcT.out; simp; omega) (by have := hcnt.out; have := hcT.out; rw [hlenx.out]; omega)).mono ?_
          rintro e w6 ⟨v6, bs6, cs6, rfl, hg6, hgr6, hat6⟩
          have hg6' : Hid (GrowOwn 30 1 IntsOwn base w6 v6 (xs ++ [p] ++ pathsJ n d p j ++ pathsD n Y (p ++ [(j : Int)])) bs6 cs6) := hg6
          have hgr6' : Hid (w10.grownBy w6 (some gv)) := hgr6
          have hat6' : Hid (v6.ownBlock = some gv ∨ ∃ g, v6.ownBlock = some g ∧ w10.heap.size ≤ g) := hat6
          have bA6 : Hid (Box w6 w.heap.size [.string (strT d), .slice (some ⟨bk, ok, none⟩) (kidsOf d).length cap0] 26) := box_grown (bAj.out.below hb10.out bAj.out.lt) hgr6'.out hgnA.out
          have hbb6 : Below w0.heap.size w10 w6 := below_of_grown hgr6'.out (by have := hb10.out.size; omega) (fun q e => by injection e with e; subst e; have := own_block2 hgrj.out.2.2.2.1 gv rfl; omega)
          clear hg6 hgr6 hat6 o10 l10
          refine hK.out _ _ ⟨bA6.out.cell 1 rfl, (hbb6.cell (p := ⟨bk, ok + j * 2, none⟩) (by show bk < _; omega)).trans hHeld.2.1, (hbb6.cell (p := ⟨bk, ok + j * 2 + 1, none⟩) (by show bk < _; omega)).trans hHeld.2.2⟩ (fun hHeld => ?_)
          clear hK K
          refine take_lit (i := 13) (d := 2) (v := ?_) rfl rfl (by kernel_rfl) (by kernel_rfl) (by kernel_rfl) (fun _ _ _ h => h) (Or.inl ⟨by rfl, ?_⟩) (by assumption) ?_
          rotate_left
          · (intro w hSw; (try dsimp only at hSw); first | (go_simp; done) | (go_simp; with_reducible rfl))
          simp only [List.set_cons_zero, List.set_cons_succ]
          refine wpAnyH_done (by kernel_rfl) ?_ _
          have hlen6 : Hid ((xs ++ [p] ++ pathsJ n d p j ++ pathsD n Y (p ++ [(j : Int)])).length = xs.length + 1 + (pathsJ n d p (j + 1)).length) := by show _ = _; rw [hPJ.out]; simp; omega
          obtain ⟨g6, cap6, rfl⟩ : ∃ g6 cap6, v6 = .slice (some ⟨g6, 0, none⟩) (xs.length + 1 + (pathsJ n d p (j + 1)).length) cap6 := by
            have ho := hg6'.out.2.2.2.1
            rw [hlen6.out] at ho
            rcases ho.2 with ⟨_, hn⟩ | ⟨g6, cap6, cur, e6, _⟩
            · omega
            · exact ⟨g6, cap6, e6⟩
          have hz10 := hb10.out.size
          go_wp2_with fail
          go_roundw
          case rel =>
            refine ⟨j + 1, g6, cap6, bs6, cs6, by omega, by go_num, rfl, ?_, ?_, ?_, bA6, ?_, ?_, by have := hgr6'.out.size; omega⟩
            · show GrowOwn _ _ _ _ _ _ _ _ _
              rw [hPJ.out, ← List.append_assoc]
              have := hg6'.out
              rw [hPJ.out] at this
              exact this
            · exact grown_trans2 (grown_trans2 hgroj.out (grown_ofB (r := none) hb10.out) (fun _ e _ => by cases e)) hgr6'.out (fun q e hq => by injection e with e; subst e; rcases hatj.out with h | h; (exact h); omega)
            · show _ ∨ _
              rcases hat6'.out with h | ⟨q, h, hq⟩
              · simp only [Value.ownBlock, Option.some.injEq] at h
                rw [h]
                exact hatj.out
              · simp only [Value.ownBlock, Option.some.injEq] at h
                right
                omega
            · exact seqOwn_grown intOwn_stays intOwn_lt (hpj.out.below intOwn_stays intOwn_lt hb10.out) hgr6'.out (fun b q => hgnF.out b q)
            · have h5 : Below w0.heap.size w0 w10 := hBj.out.trans (hb10.out.mono hBj.out.size)
              exact h5.trans (below_of_grown hgr6'.out h5.size (fun q e => by injection e with e; subst e; have := own_block2 hgrj.out.2.2.2.1 gv rfl; omega))
          case measure => simp [intOf]; omega
        · have hb9 : Hid (Below wr.heap.size wr ((wr.drew.alloc (.cells #[] 2)).alloc (.cells #[.int .i64 (j : Int)] 2))) := Below.alloc hb5.out (Below.size hb5.out) _
          have bx9 : Hid (Box ((wr.drew.alloc (.cells #[] 2)).alloc (.cells #[.int .i64 (j : Int)] 2)) (wr.heap.size + 1) [.int .i64 (j : Int)] 2) := by have := Box.new (wr.drew.alloc (.cells #[] 2)) [.int .i64 (j : Int)] 2; rw [World.size_alloc] at this; exact this
          have row9 : Hid (((wr.drew.alloc (.cells #[] 2)).alloc (.cells #[.int .i64 (j : Int)] 2)).ownsRow wr.heap.size 2 1 (.slice (some ⟨wr.heap.size, 0, none⟩) 0 0) 0 []) := row_below row5.out ((Below.refl _ _).alloc (Nat.le_refl _) _)
          have hne59 : wr.heap.size < wr.heap.size + 1 := by omega
          go_simp
          refine hK.out _ _ ⟨cell_on ((Below.refl _ _).alloc (Nat.le_refl _) _) hHeld.1, cell_on ((Below.refl _ _).alloc (Nat.le_refl _) _) hHeld.2.1, cell_on ((Below.refl _ _).alloc (Nat.le_refl _) _) hHeld.2.2⟩ (fun hHeld => ?_)
          clear hK K
          refine wpAnyH_ready (rs := [7]) (by kernel_rfl) (by simp) ?_
          refine AllReadyH.cons rfl (fun K hK => ?_) AllReadyH.nil
          refine step_append_ints (w := ((wr.drew.alloc (.cells #[] 2)).alloc (.cells #[.int .i64 (j : Int)] 2))) rfl _ _ 30 rfl wr.heap.size 0 2 iI Try.underlying30 hiI.out heI.out.1 heI.out.2.1 heI.out.2.2 (.slice (some ⟨wr.heap.size, 0, none⟩) 0 0) 0 [] rfl (by simp) (by exact row9.out) (.slice apk p.length capk) p rfl (by exact SeqAt.below intAt_stays hpA.out hb9.out) (by omega) (by exact Below.size hb9.out) ?_
          intro v7 w7 hown7 hgrow7 hnn7
          have row7 : Hid (w7.ownsRow wr.heap.size 2 1 v7 p.length (p.map fun n => Value.int .i64 n)) := by show World.ownsRow _ _ _ _ _ _ _; have := hown7; rw [Nat.zero_add, List.nil_append] at this; exact this
          obtain ⟨g7, cap7, rfl⟩ := nonnil_row row7.out hnn7
          have hb7 : Hid (Below wr.heap.size wr w7) := Below.grown hb9.out hgrow7 (Below.size hb9.out) (fun k e => own_block2 row9.out k e)
          have hbb7 : Below wr.heap.size ((wr.drew.alloc (.cells #[] 2)).alloc (.cells #[.int .i64 (j : Int)] 2)) w7 := below_of_grown hgrow7 (Below.size hb9.out) (fun k e => own_block2 row9.out k e)
          have bx7 : Hid (Box w7 (wr.heap.size + 1) [.int .i64 (j : Int)] 2) := box_grown bx9.out hgrow7 (fun e => by simp only [Value.ownBlock, Option.some.injEq] at e; omega)
          go_simp
          refine hK.out _ _ ⟨(hbb7.cell (p := ⟨w.heap.size, 1, none⟩) (by show w.heap.size < _; omega)).trans hHeld.1, (hbb7.cell (p := ⟨bk, ok + j * 2, none⟩) (by show bk < _; omega)).trans hHeld.2.1, (hbb7.cell (p := ⟨bk, ok + j * 2 + 1, none⟩) (by show bk < _; omega)).trans hHeld.2.2⟩ (fun hHeld => ?_)
          clear hK K
          refine wpAnyH_ready (rs := [10]) (by kernel_rfl) (by simp) ?_
          refine AllReadyH.cons rfl (fun K hK => ?_) AllReadyH.nil
          refine step_append_lies w7 rfl _ _ 30 rfl wr.heap.size 2 iI _ 1 8 Try.underlying30 hiI.out heI.out.1 heI.out.2.1 heI.out.2.2 rfl (by decide) (.slice (some ⟨g7, 0, none⟩) p.length cap7) p.length (p.map fun n => Value.int .i64 n) rfl row7.out ⟨wr.heap.size + 1, 0, none⟩ 1 1 [.int .i64 (j : Int)] rfl rfl (by intro i u hu; match i, hu with | 0, hu => (simp at hu; subst hu; exact bx7.out.cell 0 rfl) | i + 1, hu => simp at hu) (by intro u hu; simp at hu; subst hu; rfl) (by omega) (by unfold maxLen; omega) (by omega) (by exact Below.size hb7.out) _ rfl ?_
          intro g10 cap10 w10 hown10 hgrow10 hat10 hlt10
          have hb10 : Hid (Below wr.heap.size wr w10) := Below.grown hb7.out hgrow10 (Below.size hb7.out) (fun k e => own_block2 row7.out k e)
          have hbb10 : Below wr.heap.size w7 w10 := below_of_grown hgrow10 (Below.size hb7.out) (fun k e => own_block2 row7.out k e)
          have row10 : Hid (w10.ownsRow wr.heap.size 2 1 (.slice (some ⟨g10, 0, none⟩) (p.length + 1) cap10) (p ++ [(j : Int)]).length ((p ++ [(j : Int)]).map fun n => Value.int .i64 n)) := by show World.ownsRow _ _ _ _ _ _ _; rw [List.length_append, List.map_append]; exact hown10
          go_simp
          refine hK.out _ _ ⟨(hbb10.cell (p := ⟨w.heap.size, 1, none⟩) (by show w.heap.size < _; omega)).trans hHeld.1, (hbb10.cell (p := ⟨bk, ok + j * 2, none⟩) (by show bk < _; omega)).trans hHeld.2.1, (hbb10.cell (p := ⟨bk, ok + j * 2 + 1, none⟩) (by show bk < _; omega)).trans hHeld.2.2⟩ (fun hHeld => ?_)
          clear hK K
          refine wpAnyH_ready (rs := [12]) (by kernel_rfl) (by simp) ?_
          refine AllReadyH.cons rfl (fun K hK => ?_) AllReadyH.nil
          go_simp
          obtain ⟨f10, o10, l10⟩ := seqOwn_of_row row10.out (fun x hx => by rcases List.mem_append.1 hx with q | q; (exact hIp.out x q); (simp at q; subst q; unfold InI; omega))
          refine (ih.out w10 _ _ _ _ Y (p ++ [(j : Int)]) f10 (xs ++ [p] ++ pathsJ n d p j) bsj csj htY.out hRY.out (by exact hBj.out.trans (hb10.out.mono hBj.out.size)) hbase (by have := hb10.out.size; omega) (by exact hgrj.out.below IntsOwn_stays hb10.out) o10 (fun b q e => by have h1 := l10 b q; simp only [Value.ownBlock, Option.some.injEq] at e; omega) (by have := hcnt.out; have := hcT.out; simp; omega) (by have := hcnt.out; have := hcT.out; rw [hlenx.out]; omega)).mono ?_
          rintro e w6 ⟨v6, bs6, cs6, rfl, hg6, hgr6, hat6⟩
          have hg6' : Hid (GrowOwn 30 1 IntsOwn base w6 v6 (xs ++ [p] ++ pathsJ n d p j ++ pathsD n Y (p ++ [(j : Int)])) bs6 cs6) := hg6
          have hgr6' : Hid (w10.grownBy w6 (some gv)) := hgr6
          have hat6' : Hid (v6.ownBlock = some gv ∨ ∃ g, v6.ownBlock = some g ∧ w10.heap.size ≤ g) := hat6
          have bA6 : Hid (Box w6 w.heap.size [.string (strT d), .slice (some ⟨bk, ok, none⟩) (kidsOf d).length cap0] 26) := box_grown (bAj.out.below hb10.out bAj.out.lt) hgr6'.out hgnA.out
          have hbb6 : Below w0.heap.size w10 w6 := below_of_grown hgr6'.out (by have := hb10.out.size; omega) (fun q e => by injection e with e; subst e; have := own_block2 hgrj.out.2.2.2.1 gv rfl; omega)
          clear hg6 hgr6 hat6 o10 l10
          refine hK.out _ _ ⟨bA6.out.cell 1 rfl, (hbb6.cell (p := ⟨bk, ok + j * 2, none⟩) (by show bk < _; omega)).trans hHeld.2.1, (hbb6.cell (p := ⟨bk, ok + j * 2 + 1, none⟩) (by show bk < _; omega)).trans hHeld.2.2⟩ (fun hHeld => ?_)
          clear hK K
          refine take_lit (i := 13) (d := 2) (v := ?_) rfl rfl (by kernel_rfl) (by kernel_rfl) (by kernel_rfl) (fun _ _ _ h => h) (Or.inl ⟨by rfl, ?_⟩) (by assumption) ?_
          rotate_left
          · (intro w hSw; (try dsimp only at hSw); first | (go_simp; done) | (go_simp; with_reducible rfl))
          simp only [List.set_cons_zero, List.set_cons_succ]
          refine wpAnyH_done (by kernel_rfl) ?_ _
          have hlen6 : Hid ((xs ++ [p] ++ pathsJ n d p j ++ pathsD n Y (p ++ [(j : Int)])).length = xs.length + 1 + (pathsJ n d p (j + 1)).length) := by show _ = _; rw [hPJ.out]; simp; omega
          obtain ⟨g6, cap6, rfl⟩ : ∃ g6 cap6, v6 = .slice (some ⟨g6, 0, none⟩) (xs.length + 1 + (pathsJ n d p (j + 1)).length) cap6 := by
            have ho := hg6'.out.2.2.2.1
            rw [hlen6.out] at ho
            rcases ho.2 with ⟨_, hn⟩ | ⟨g6, cap6, cur, e6, _⟩
            · omega
            · exact ⟨g6, cap6, e6⟩
          have hz10 := hb10.out.size
          go_wp2_with fail
          go_roundw
          case rel =>
            refine ⟨j + 1, g6, cap6, bs6, cs6, by omega, by go_num, rfl, ?_, ?_, ?_, bA6, ?_, ?_, by have := hgr6'.out.size; omega⟩
            · show GrowOwn _ _ _ _ _ _ _ _ _
              rw [hPJ.out, ← List.append_assoc]
              have := hg6'.out
              rw [hPJ.out] at this
              exact this
            · exact grown_trans2 (grown_trans2 hgroj.out (grown_ofB (r := none) hb10.out) (fun _ e _ => by cases e)) hgr6'.out (fun q e hq => by injection e with e; subst e; rcases hatj.out with h | h; (exact h); omega)
            · show _ ∨ _
              rcases hat6'.out with h | ⟨q, h, hq⟩
              · simp only [Value.ownBlock, Option.some.injEq] at h
                rw [h]
                exact hatj.out
              · simp only [Value.ownBlock, Option.some.injEq] at h
                right
                omega
            · exact seqOwn_grown intOwn_stays intOwn_lt (hpj.out.below intOwn_stays intOwn_lt hb10.out) hgr6'.out (fun b q => hgnF.out b q)
            · have h5 : Below w0.heap.size w0 w10 := hBj.out.trans (hb10.out.mono hBj.out.size)
              exact h5.trans (below_of_grown hgr6'.out h5.size (fun q e => by injection e with e; subst e; have := own_block2 hgrj.out.2.2.2.1 gv rfl; omega))
          case measure => simp [intOf]; omega
      · have hb9 : Hid (Below wr.heap.size wr (wr.drew.alloc (.cells #[.int .i64 (j : Int)] 2))) := Below.alloc (Below.drew (Below.refl wr.heap.size wr)) (Below.size (Below.drew (Below.refl wr.heap.size wr))) _
        have bx9 : Hid (Box (wr.drew.alloc (.cells #[.int .i64 (j : Int)] 2)) (wr.heap.size) [.int .i64 (j : Int)] 2) := by have := Box.new wr.drew [.int .i64 (j : Int)] 2; exact this
        go_simp
        refine hK.out _ _ ⟨cell_on ((Below.refl _ _).alloc (Nat.le_refl _) _) hHeld.1, cell_on ((Below.refl _ _).alloc (Nat.le_refl _) _) hHeld.2.1, cell_on ((Below.refl _ _).alloc (Nat.le_refl _) _) hHeld.2.2⟩ (fun hHeld => ?_)
        clear hK K
        refine wpAnyH_ready (rs := [5]) (by kernel_rfl) (by simp) ?_
        refine AllReadyH.cons rfl (fun K hK => ?_) AllReadyH.nil
        have hb5 : Hid (Below wr.heap.size wr ((wr.drew.alloc (.cells #[.int .i64 (j : Int)] 2)).alloc (.cells #[] 2))) := Below.alloc hb9.out (Below.size hb9.out) _
        have row5 : Hid (((wr.drew.alloc (.cells #[.int .i64 (j : Int)] 2)).alloc (.cells #[] 2)).ownsRow wr.heap.size 2 1 (.slice (some ⟨wr.heap.size + 1, 0, none⟩) 0 0) 0 []) := by have := row_start (w := (wr.drew.alloc (.cells #[.int .i64 (j : Int)] 2))) (B := wr.heap.size) (Below.size hb9.out); rw [World.size_alloc] at this; exact this
        have hg5 : wr.heap.size ≤ wr.heap.size + 1 := by omega
        have bx5 : Hid (Box ((wr.drew.alloc (.cells #[.int .i64 (j : Int)] 2)).alloc (.cells #[] 2)) (wr.heap.size) [.int .i64 (j : Int)] 2) := bx9.out.alloc _
        have hne59 : wr.heap.size < wr.heap.size + 1 := by omega
        go_simp
        refine hK.out _ _ ⟨cell_on ((Below.refl _ _).alloc (Nat.le_refl _) _) hHeld.1, cell_on ((Below.refl _ _).alloc (Nat.le_refl _) _) hHeld.2.1, cell_on ((Below.refl _ _).alloc (Nat.le_refl _) _) hHeld.2.2⟩ (fun hHeld => ?_)
        clear hK K
        refine wpAnyH_ready (rs := [7]) (by kernel_rfl) (by simp) ?_
        refine AllReadyH.cons rfl (fun K hK => ?_) AllReadyH.nil
        refine step_append_ints (w := ((wr.drew.alloc (.cells #[.int .i64 (j : Int)] 2)).alloc (.cells #[] 2))) rfl _ _ 30 rfl wr.heap.size 0 2 iI Try.underlying30 hiI.out heI.out.1 heI.out.2.1 heI.out.2.2 (.slice (some ⟨wr.heap.size + 1, 0, none⟩) 0 0) 0 [] rfl (by simp) (by exact row5.out) (.slice apk p.length capk) p rfl (by exact SeqAt.below intAt_stays hpA.out hb5.out) (by omega) (by exact Below.size hb5.out) ?_
        intro v7 w7 hown7 hgrow7 hnn7
        have row7 : Hid (w7.ownsRow wr.heap.size 2 1 v7 p.length (p.map fun n => Value.int .i64 n)) := by show World.ownsRow _ _ _ _ _ _ _; have := hown7; rw [Nat.zero_add, List.nil_append] at this; exact this
        obtain ⟨g7, cap7, rfl⟩ := nonnil_row row7.out hnn7
        have hb7 : Hid (Below wr.heap.size wr w7) := Below.grown hb5.out hgrow7 (Below.size hb5.out) (fun k e => own_block2 row5.out k e)
        have hbb7 : Below wr.heap.size ((wr.drew.alloc (.cells #[.int .i64 (j : Int)] 2)).alloc (.cells #[] 2)) w7 := below_of_grown hgrow7 (Below.size hb5.out) (fun k e => own_block2 row5.out k e)
        have bx7 : Hid (Box w7 (wr.heap.size) [.int .i64 (j : Int)] 2) := box_grown bx5.out hgrow7 (fun e => by simp only [Value.ownBlock, Option.some.injEq] at e; omega)
        go_simp
        refine hK.out _ _ ⟨(hbb7.cell (p := ⟨w.heap.size, 1, none⟩) (by show w.heap.size < _; omega)).trans hHeld.1, (hbb7.cell (p := ⟨bk, ok + j * 2, none⟩) (by show bk < _; omega)).trans hHeld.2.1, (hbb7.cell (p := ⟨bk, ok + j * 2 + 1, none⟩) (by show bk < _; omega)).trans hHeld.2.2⟩ (fun hHeld => ?_)
        clear hK K
        refine wpAnyH_ready (rs := [10]) (by kernel_rfl) (by simp) ?_
        refine AllReadyH.cons rfl (fun K hK => ?_) AllReadyH.nil
        refine step_append_lies w7 rfl _ _ 30 rfl wr.heap.size 2 iI _ 1 8 Try.underlying30 hiI.out heI.out.1 heI.out.2.1 heI.out.2.2 rfl (by decide) (.slice (some ⟨g7, 0, none⟩) p.length cap7) p.length (p.map fun n => Value.int .i64 n) rfl row7.out ⟨wr.heap.size, 0, none⟩ 1 1 [.int .i64 (j : Int)] rfl rfl (by intro i u hu; match i, hu with | 0, hu => (simp at hu; subst hu; exact bx7.out.cell 0 rfl) | i + 1, hu => simp at hu) (by intro u hu; simp at hu; subst hu; rfl) (by omega) (by unfold maxLen; omega) (by omega) (by exact Below.size hb7.out) _ rfl ?_
        intro g10 cap10 w10 hown10 hgrow10 hat10 hlt10
        have hb10 : Hid (Below wr.heap.size wr w10) := Below.grown hb7.out hgrow10 (Below.size hb7.out) (fun k e => own_block2 row7.out k e)
        have hbb10 : Below wr.heap.size w7 w10 := below_of_grown hgrow10 (Below.size hb7.out) (fun k e => own_block2 row7.out k e)
        have row10 : Hid (w10.ownsRow wr.heap.size 2 1 (.slice (some ⟨g10, 0, none⟩) (p.length + 1) cap10) (p ++ [(j : Int)]).length ((p ++ [(j : Int)]).map fun n => Value.int .i64 n)) := by show World.ownsRow _ _ _ _ _ _ _; rw [List.length_append, List.map_append]; exact hown10
        go_simp
        refine hK.out _ _ ⟨(hbb10.cell (p := ⟨w.heap.size, 1, none⟩) (by show w.heap.size < _; omega)).trans hHeld.1, (hbb10.cell (p := ⟨bk, ok + j * 2, none⟩) (by show bk < _; omega)).trans hHeld.2.1, (hbb10.cell (p := ⟨bk, ok + j * 2 + 1, none⟩) (by show bk < _; omega)).trans hHeld.2.2⟩ (fun hHeld => ?_)
        clear hK K
        refine wpAnyH_ready (rs := [12]) (by kernel_rfl) (by simp) ?_
        refine AllReadyH.cons rfl (fun K hK => ?_) AllReadyH.nil
        go_simp
        obtain ⟨f10, o10, l10⟩ := seqOwn_of_row row10.out (fun x hx => by rcases List.mem_append.1 hx with q | q; (exact hIp.out x q); (simp at q; subst q; unfold InI; omega))
        refine (ih.out w10 _ _ _ _ Y (p ++ [(j : Int)]) f10 (xs ++ [p] ++ pathsJ n d p j) bsj csj htY.out hRY.out (by exact hBj.out.trans (hb10.out.mono hBj.out.size)) hbase (by have := hb10.out.size; omega) (by exact hgrj.out.below IntsOwn_stays hb10.out) o10 (fun b q e => by have h1 := l10 b q; simp only [Value.ownBlock, Option.some.injEq] at e; omega) (by have := hcnt.out; have := hcT.out; simp; omega) (by have := hcnt.out; have := hcT.out; rw [hlenx.out]; omega)).mono ?_
        rintro e w6 ⟨v6, bs6, cs6, rfl, hg6, hgr6, hat6⟩
        have hg6' : Hid (GrowOwn 30 1 IntsOwn base w6 v6 (xs ++ [p] ++ pathsJ n d p j ++ pathsD n Y (p ++ [(j : Int)])) bs6 cs6) := hg6
        have hgr6' : Hid (w10.grownBy w6 (some gv)) := hgr6
        have hat6' : Hid (v6.ownBlock = some gv ∨ ∃ g, v6.ownBlock = some g ∧ w10.heap.size ≤ g) := hat6
        have bA6 : Hid (Box w6 w.heap.size [.string (strT d), .slice (some ⟨bk, ok, none⟩) (kidsOf d).length cap0] 26) := box_grown (bAj.out.below hb10.out bAj.out.lt) hgr6'.out hgnA.out
        have hbb6 : Below w0.heap.size w10 w6 := below_of_grown hgr6'.out (by have := hb10.out.size; omega) (fun q e => by injection e with e; subst e; have := own_block2 hgrj.out.2.2.2.1 gv rfl; omega)
        clear hg6 hgr6 hat6 o10 l10
        refine hK.out _ _ ⟨bA6.out.cell 1 rfl, (hbb6.cell (p := ⟨bk, ok + j * 2, none⟩) (by show bk < _; omega)).trans hHeld.2.1, (hbb6.cell (p := ⟨bk, ok + j * 2 + 1, none⟩) (by show bk < _; omega)).trans hHeld.2.2⟩ (fun hHeld => ?_)
        clear hK K
        refine take_lit (i := 13) (d := 2) (v := ?_) rfl rfl (by kernel_rfl) (by kernel_rfl) (by kernel_rfl) (fun _ _ _ h => h) (Or.inl ⟨by rfl, ?_⟩) (by assumption) ?_
        rotate_left
        · (intro w hSw; (try dsimp only at hSw); first | (go_simp; done) | (go_simp; with_reducible rfl))
        simp only [List.set_cons_zero, List.set_cons_succ]
        refine wpAnyH_done (by kernel_rfl) ?_ _
        have hlen6 : Hid ((xs ++ [p] ++ pathsJ n d p j ++ pathsD n Y (p ++ [(j : Int)])).length = xs.length + 1 + (pathsJ n d p (j + 1)).length) := by show _ = _; rw [hPJ.out]; simp; omega
        obtain ⟨g6, cap6, rfl⟩ : ∃ g6 cap6, v6 = .slice (some ⟨g6, 0, none⟩) (xs.length + 1 + (pathsJ n d p (j + 1)).length) cap6 := by
          have ho := hg6'.out.2.2.2.1
          rw [hlen6.out] at ho
          rcases ho.2 with ⟨_, hn⟩ | ⟨g6, cap6, cur, e6, _⟩
          · omega
          · exact ⟨g6, cap6, e6⟩
        have hz10 := hb10.out.size
        go_wp2_with fail
        go_roundw
        case rel =>
          refine ⟨j + 1, g6, cap6, bs6, cs6, by omega, by go_num, rfl, ?_, ?_, ?_, bA6, ?_, ?_, by have := hgr6'.out.size; omega⟩
          · show GrowOwn _ _ _ _ _ _ _ _ _
            rw [hPJ.out, ← List.append_assoc]
            have := hg6'.out
            rw [hPJ.out] at this
            exact this
          · exact grown_trans2 (grown_trans2 hgroj.out (grown_ofB (r := none) hb10.out) (fun _ e _ => by cases e)) hgr6'.out (fun q e hq => by injection e with e; subst e; rcases hatj.out with h | h; (exact h); omega)
          · show _ ∨ _
            rcases hat6'.out with h | ⟨q, h, hq⟩
            · simp only [Value.ownBlock, Option.some.injEq] at h
              rw [h]
              exact hatj.out
            · simp only [Value.ownBlock, Option.some.injEq] at h
              right
              omega
          · exact seqOwn_grown intOwn_stays intOwn_lt (hpj.out.below intOwn_stays intOwn_lt hb10.out) hgr6'.out (fun b q => hgnF.out b q)
          · have h5 : Below w0.heap.size w0 w10 := hBj.out.trans (hb10.out.mono hBj.out.size)
            exact h5.trans (below_of_grown hgr6'.out h5.size (fun q e => by injection e with e; subst e; have := own_block2 hgrj.out.2.2.2.1 gv rfl; omega))
        case measure => simp [intOf]; omega
    · obtain rfl : j = (kidsOf d).length := by omega
      go_wp2_with fail
      go_ret
      refine ⟨_, bsj, csj, rfl, ?_, hgroj.out, ?_⟩
      · rw [pathsD_succ]
        have := hgrj.out
        rw [List.append_assoc] at this
        exact this
      · rcases hatj.out with h | h
        · exact Or.inl h.symm
        · exact Or.inr ⟨gv, rfl, by omega⟩
theorem paS_all {w0 : World} {lo base : Nat} : ∀ n, PaS w0 lo base n := by
  intro n
  induction n with
  | zero => intro w t k kp vout d p fp xs bss css h; exact h.elim
  | succ n ih => exact paS_step n ih
end Go.Proofs.Ytgmgbjeejlkdmaa
