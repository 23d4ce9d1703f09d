/- insertIn of the program: walked. -/
import Derived.Test.YtfncmndgdomjiaaEdIns2
import Derived.Test.YtfncmndgdomjiaaEdDelIn
namespace Go.Proofs.Ytfncmndgdomjiaa
open Go.RowKit Go.Deep
/-- may a tree be put in there? -/
def insP (d : TD) (q : List Int) (p : Int) : Prop := okP d q = true ∧ 0 ≤ p ∧ p ≤ ((kidsOf (endP d q)).length : Int)
/-- what insertIn answers -/
def InsR (w w' : World) (R : Nat) (C : Array Value) (fs : List Nat) (d : TD) (kp : Value) (q : List Int) (p : Int) (x : TD) (e : Ending) : Prop :=
  (okP d q = true ∧ 0 ≤ p ∧ p ≤ ((kidsOf (endP d q)).length : Int) ∧ e = .returned (.tuple #[.iface 92 (.agg #[kp]), .bool true]) ∧ Turned w w' R C fs (setP d q (mkT (strT (endP d q)) (insK (kidsOf (endP d q)) p.toNat x))) ∧ Out (R :: fs) w w') ∨ (¬ insP d q p ∧ e = .returned (.tuple #[.nilIface, .bool false]) ∧ Below w.heap.size w w')
set_option maxRecDepth 100000 in
set_option maxHeartbeats 8000000 in
theorem insertIn_any {w : World} {n nx R lo m cp : Nat} {ap : Option Addr} {C : Array Value} {cs : List Value} {d x : TD} {fs : List Nat} {path : List Int} {p : Int} {tx kx : Value} (hrow0 : RowIs w R 0 C 33 cs) (hl0 : cs.length = 2) (htP : TreeP n w cs d fs) (hnd0 : fs.Nodup) (hb00 : R ∉ fs) (hRd : RightT d) (hp0 : SeqAt 1 IntAt w lo (.slice ap path.length cp) path) (hpt0 : SeqAt 1 IntAt w lo (.slice ap m cp) (path.take m)) (hm0 : path.length = m + 1) (hcp0 : path.length ≤ cp) (hpp : path = path.take m ++ [p]) (htx0 : TreeAt w lo nx tx kx x) (hRx0 : RightT x) :
    Calls Try.prog 68 #[.pointer (some ⟨R, 0, none⟩), .agg #[.slice ap path.length cp, tx, kx]] w fun e w' => InsR w w' R C fs d (.slice ap path.length cp) (path.take m) p x e := by
  obtain ⟨rfl, _⟩ := htx0.tag
  obtain ⟨_, ax, cx, rfl⟩ := htx0.form
  have hrow : Hid (RowIs w R 0 C 33 cs) := hrow0
  have hl : Hid (cs.length = 2) := hl0
  have htp : Hid (TreeP n w cs d fs) := htP
  have ht : Hid (TreeO n w cs d fs) := TreeP.toO _ _ _ _ _ htP
  have hnd : Hid (fs.Nodup) := hnd0
  have hb : Hid (R ∉ fs) := hb00
  have hp : Hid (SeqAt 1 IntAt w lo (.slice ap path.length cp) path) := hp0
  have hpt : Hid (SeqAt 1 IntAt w lo (.slice ap m cp) (path.take m)) := hpt0
  have hm : Hid (path.length = m + 1) := hm0
  have hcp : Hid (path.length ≤ cp) := hcp0
  have hpq : Hid (path = path.take m ++ [p]) := hpp
  have htx : Hid (TreeAt w lo nx (.string (strT x)) (.slice ax (kidsOf x).length cx) x) := htx0
  have hRx : Hid (RightT x) := hRx0
  have hRd' : Hid (RightT d) := hRd
  clear hrow0 hl0 htP hnd0 hb00 hp0 hpt0 hm0 hcp0 hpp htx0 hRx0 hRd
  have hb0 : Hid (Below w.heap.size w (w.alloc (.cells #[.slice ap path.length cp, .string (strT x), .slice ax (kidsOf x).length cx] 94))) := (Below.refl _ _).alloc (Nat.le_refl _) _
  have bC0 : Hid (Box (w.alloc (.cells #[.slice ap path.length cp, .string (strT x), .slice ax (kidsOf x).length cx] 94)) w.heap.size [.slice ap path.length cp, .string (strT x), .slice ax (kidsOf x).length cx] 94) := Box.new w _ _
  have hfl : Hid (∀ x ∈ fs, x < w.heap.size) := fun x hx => TreeO_lt n _ _ _ _ ht.out x hx
  go_enter Try.func68, Try.ntmps68
  have p0 := bC0.out.cell 0 rfl
  go_wp2_with fail
  refine (splitPath_any (hp.out.below intAt_stays hb0.out) hm.out hcp.out).mono ?_
  rintro e w2 ⟨P, ⟨rfl, hpath⟩, hb2⟩
  have hB2 : Hid (Below w.heap.size w w2) := hb0.out.trans (hb2.mono hb0.out.size)
  have bC2 : Hid (Box w2 w.heap.size [.slice ap path.length cp, .string (strT x), .slice ax (kidsOf x).length cx] 94) := bC0.out.below hb2 bC0.out.lt
  have hPp : P = p := by
    have q := hpath.symm.trans hpq.out
    have q2 := List.append_cancel_left q
    injection q2
  subst hPp
  clear p0 hpath
  go_wp2_with fail
  refine (nodeAt_any (hrow.out.below hB2.out) hl.out (TreeO_stays n _ _ _ _ _ (fun x hx => hB2.out.block x (hfl.out x hx)) ht.out) hnd.out hb.out (hpt.out.below intAt_stays hB2.out)).mono ?_
  rintro e w3 ⟨hn3, hb3⟩
  have hB3 : Hid (Below w.heap.size w w3) := hB2.out.trans (hb3.mono hB2.out.size)
  have bC3 : Hid (Box w3 w.heap.size [.slice ap path.length cp, .string (strT x), .slice ax (kidsOf x).length cx] 94) := bC2.out.below hb3 bC2.out.lt
  rcases hn3 with ⟨hoka, bq, oq, rfl, hloc3⟩ | ⟨hoka, rfl⟩
  · have hokh : Hid (okP d (path.take m) = true) := hoka
    obtain ⟨b8, o8, n8, C8, T8, cs8, fs8, y1, y2, y3, y4, y5, y6, y7, _, y9, y10⟩ := zoom (path.take m) n w R 0 C 33 cs d fs hrow.out hl.out ht.out hnd.out hb.out hoka
    obtain ⟨rfl, rfl⟩ := LocP.one _ hloc3 (LocP.keep _ y9 hB2.out)
    obtain ⟨k8, rfl, hs8, htg8⟩ := y3.opened
    obtain ⟨a8, c8, rfl⟩ := hs8.form
    have hrn := zoomR (path.take m) n w R 0 bq oq cs d fs (fun m hm => by
      obtain ⟨C1, q1, _, _, _, q5⟩ := hrow.out
      rw [blk_cell q1]
      exact q5 m (by rw [hl.out]; exact hm)) htp.out hoka y9
    have hfew : (kidsOf (endP d (path.take m))).length ≤ 30 := (hRd'.out.ends _ hoka).few
    have c1 := y1.cell 1 rfl
    have hrn2 : (a8 = none ∧ c8 = 0) ∨ ∃ g, a8 = some ⟨g, 0, none⟩ ∧ 0 < (kidsOf (endP d (path.take m))).length ∧ RoomB w g c8 := by
      rcases hrn with e | ⟨g, n1, cap1, e, h0, hr⟩
      · rw [c1] at e
        injection e with e
        injection e with e1 _ e3
        exact Or.inl ⟨e1, e3⟩
      · rw [c1] at e
        injection e with e
        injection e with e1 e2 e3
        subst e1 e3
        exact Or.inr ⟨g, rfl, by omega, hr⟩
    have hroom : Hid (∀ (w5 : World) (o : Obj), Below w3.heap.size w3 w5 → (a8 = none ∧ c8 = 0) ∨ ∃ g, a8 = some ⟨g, 0, none⟩ ∧ 0 < (kidsOf (endP d (path.take m))).length ∧ RoomB (w5.alloc o) g c8) := fun w5 o hb5 => by
      rcases hrn2 with q | ⟨g, e, h0, hr⟩
      · exact Or.inl q
      · exact Or.inr ⟨g, e, h0, hr.keep ((hB3.out.trans ((hb5.alloc hb5.size o).mono hB3.out.size)).block g hr.lt)⟩
    have hs6 : Hid (∀ (w5 : World) (o : Obj), Below w3.heap.size w3 w5 → SeqOwn 2 (TreeO (n8 - 1 + nx)) (w5.alloc o) (.slice a8 (kidsOf (endP d (path.take m))).length c8) (kidsOf (endP d (path.take m))) fs8) := fun w5 o hb5 => SeqOwn.stays (TreeO_stays _) (SeqOwn.turn (fun _ _ _ _ h => TreeO_mono (by omega) h) hs8) (fun x hx => (hB3.out.trans ((hb5.alloc hb5.size o).mono hB3.out.size)).block x (hfl.out x (y7 x hx)))
    have hx6 : Hid (∀ (w5 : World) (o : Obj) (cs5 : List Value) (fs5 : List Nat), Below w3.heap.size w3 w5 → TreeO nx w5 cs5 x fs5 → TreeO (n8 - 1 + nx) (w5.alloc o) cs5 x fs5) := fun w5 o cs5 fs5 _ h => TreeO_stays _ _ _ _ _ _ (fun b hb => ((Below.refl w5.heap.size w5).alloc (Nat.le_refl _) o).block b (TreeO_lt _ _ _ _ _ h b hb)) (TreeO_mono (by omega) h)
    have hap : Hid (∀ (w5 : World) (fs5 : List Nat), Below w3.heap.size w3 w5 → (∀ b ∈ fs5, w3.heap.size ≤ b) → ∀ b ∈ fs5, b ∉ fs8) := fun w5 fs5 _ h b hb hq => by have h1 := h b hb; have h2 := hfl.out b (y7 b hq); have := hB3.out.size; omega
    have hvb : Hid (∀ (w5 : World), Below w3.heap.size w3 w5 → w5.heap.size ∉ fs8) := fun w5 hb5 hq => by have h2 := hfl.out _ (y7 _ hq); have h3 := hB3.out.size; have h4 := hb5.size; omega
    have bC6 : Hid (∀ (w5 : World) (o : Obj), Below w3.heap.size w3 w5 → Box (w5.alloc o) w.heap.size [.slice ap path.length cp, .string (strT x), .slice ax (kidsOf x).length cx] 94) := fun w5 o hb5 => (bC3.out.below hb5 bC3.out.lt).alloc o
    have hne8 : Hid (w.heap.size ∉ fs8) := fun hq => by have h2 := hfl.out _ (y7 _ hq); omega
    have hbql : Hid (bq < w.heap.size) := y1.lt
    have hneq : Hid (w.heap.size ≠ bq) := by have := y1.lt; show _ ≠ _; omega
    have hsub : Hid (∀ x ∈ bq :: fs8, x ∈ R :: fs) := fun x hx => by
      rcases List.mem_cons.1 hx with rfl | hx
      · rcases y6 with q | q
        · rw [q]; exact List.mem_cons_self
        · exact List.mem_cons_of_mem _ q
      · exact List.mem_cons_of_mem _ (y7 x hx)
    have hSall : Hid (∀ W', Below w3.heap.size w3 W' → W'.cell? ⟨w.heap.size, 1, none⟩ = some (.string (strT x)) ∧ W'.cell? ⟨w.heap.size, 2, none⟩ = some (.slice ax (kidsOf x).length cx)) := fun W' hb => by
      have b := bC3.out.below hb bC3.out.lt
      exact ⟨b.cell 1 rfl, b.cell 2 rfl⟩
    have hSk : Hid (∀ W', Below w3.heap.size w3 W' → W'.cell? ⟨bq, oq + 1, none⟩ = some (.slice a8 (kidsOf (endP d (path.take m))).length c8)) := fun W' hb => (y1.below (hB3.out.trans (hb.mono hB3.out.size))).cell 1 rfl
    have z1 := (y1.below hB3.out).cell 1 rfl
    have y1h : Hid (RowIs w bq oq C8 T8 [.string (strT (endP d (path.take m))), .slice a8 (kidsOf (endP d (path.take m))).length c8]) := y1
    have y5h : Hid (bq ∉ fs8) := y5
    have y10h : Hid _ := y10
    have tgh : Hid ((strT (endP d (path.take m))).size ≤ maxLen) := htg8
    clear y1 y2 y3 y4 y5 y6 y7 y9 y10 hs8 htg8 hrn hrn2 c1 hloc3 hb3 hb2 hoka
    by_cases hp0 : 0 ≤ P
    · by_cases hp1 : P ≤ ((kidsOf (endP d (path.take m))).length : Int)
      · obtain ⟨k, rfl⟩ := Int.eq_ofNat_of_zero_le hp0
        have hk : k ≤ (kidsOf (endP d (path.take m))).length := by omega
        have hp2 : ¬ ((k : Int) < 0) := by omega
        have hp3 : ¬ (((kidsOf (endP d (path.take m))).length : Int) < (k : Int)) := by omega
        go_upto_region 5 with fail
        refine wp_region_held_drew (S := fun w' => w'.cell? ⟨w.heap.size, 1, none⟩ = some (.string (strT x)) ∧ w'.cell? ⟨w.heap.size, 2, none⟩ = some (.slice ax (kidsOf x).length cx)) (by kernel_rfl) (hSall.out _ (Below.drew (Below.refl _ _))) (fun hHeld => ?_)
        refine tq (i := 0) (d := 33) ?_
        simp only [sz, ss]
        refine tq (i := 1) (d := 34) ?_
        simp only [sz, ss]
        refine tq (i := 2) (d := 35) ?_
        simp only [sz, ss]
        refine tq (i := 3) (d := 36) ?_
        simp only [sz, ss]
        refine tq (i := 5) (d := 38) ?_
        simp only [sz, ss]
        refine tq (i := 6) (d := 39) ?_
        simp only [sz, ss]
        refine tq (i := 7) (d := 40) ?_
        simp only [sz, ss]
        refine wpAnyH_ready (rs := [4, 8]) (by kernel_rfl) (by simp) ?_
        refine (AllReadyH.cons rfl (fun K hK => ?_) (AllReadyH.cons rfl (fun K hK => ?_) AllReadyH.nil))
        · have cF : w3.drew.cell? ⟨bq, oq + 1, none⟩ = some (.slice a8 (kidsOf (endP d (path.take m))).length c8) := hSk.out _ (Below.drew (Below.refl _ _))
          go_simp
          clear cF
          refine hK.out _ _ hHeld (fun hHeld => ?_)
          clear hK K
          refine wpAnyH_ready (rs := [8]) (by kernel_rfl) (by simp) ?_
          refine AllReadyH.cons rfl (fun K hK => ?_) AllReadyH.nil
          go_simp
          refine (cpI_all nx _ lo _ _ x (by exact TreeAt.below htx.out (Below.drew hB3.out)) hRx.out).mono ?_
          rintro e w5 ⟨⟨cs5, fs5, rfl, ho5, nd5, lo5⟩, hb5⟩
          have hb5h : Hid (Below w3.heap.size w3 w5) := undrew hb5
          obtain ⟨k5, rfl, hs5, _⟩ := ho5.opened
          obtain ⟨a5, c5, rfl⟩ := hs5.form
          have ho5h : Hid (TreeO nx w5 [.string (strT x), .slice a5 (kidsOf x).length c5] x fs5) := ho5
          have nd5h : Hid (fs5.Nodup) := nd5
          have lo5h : Hid (∀ b ∈ fs5, w3.heap.size ≤ b) := lo5
          clear ho5 nd5 lo5 hb5 hs5
          refine hK.out _ _ (hSall.out _ hb5h.out) (fun hHeld => ?_)
          clear hK K
          refine wpAnyH_ready (rs := [9]) (by kernel_rfl) (by simp) ?_
          refine AllReadyH.cons rfl (fun K hK => ?_) AllReadyH.nil
          go_simp
          have hb6h : Hid (Below w3.heap.size w3 (w5.alloc (.cells #[.string (strT x), .slice a5 (kidsOf x).length c5] 33))) := hb5h.out.alloc (by have := hb5h.out.size; exact this) _
          refine hK.out _ _ (hSall.out _ hb6h.out) (fun hHeld => ?_)
          clear hK K
          refine wpAnyH_ready (rs := [10]) (by kernel_rfl) (by simp) ?_
          refine AllReadyH.cons rfl (fun K hK => ?_) AllReadyH.nil
          go_simp
          refine (kids_insert (n := n8 - 1 + nx) (w := (w5.alloc (.cells #[.string (strT x), .slice a5 (kidsOf x).length c5] 33))) (vb := w5.heap.size) (TV := 33) (fs := fs8) (fx := fs5) (x := x) (by exact hs6.out w5 _ hb5h.out) (by exact hroom.out w5 _ hb5h.out) (by omega) (by omega) (by exact hx6.out w5 _ _ _ hb5h.out ho5h.out) nd5h.out (by exact hap.out w5 fs5 hb5h.out lo5h.out) (by exact Box.new w5 [_, _] _) (by exact hvb.out w5 hb5h.out)).mono ?_
          rintro e w7 ⟨a7, c7, fs7, rfl, hs7, hn7, hf7, hO7⟩
          have hs7h : Hid _ := hs7
          have hn7h : Hid _ := hn7
          have hf7h : Hid _ := hf7
          have hO7h : Hid (Out fs8 (w5.alloc (.cells #[.string (strT x), .slice a5 (kidsOf x).length c5] 33)) w7) := hO7
          clear hs7 hn7 hf7
          have r7 := (y1h.out.below (hB3.out.trans (hb6h.out.mono hB3.out.size))).out hO7 y5h.out
          have bC7 : Hid (Box w7 w.heap.size [.slice ap path.length cp, .string (strT x), .slice ax (kidsOf x).length cx] 94) := (hO7.keep (bC6.out w5 _ hb5h.out).lt hne8.out).trans (bC6.out w5 _ hb5h.out)
          have r71 := r7.cell 1 rfl
          have f71 := r7.unfrozen (oq + 1)
          have r7h : Hid (RowIs w7 bq oq C8 T8 [.string (strT (endP d (path.take m))), .slice a8 (kidsOf (endP d (path.take m))).length c8]) := r7
          clear hO7 r7
          refine hK.out _ _ ⟨bC7.out.cell 1 rfl, bC7.out.cell 2 rfl⟩ (fun hHeld => ?_)
          clear hK K
          refine tq (i := 11) (d := 44) ?_
          simp only [sz, ss]
          refine tq (i := 12) (d := 45) ?_
          simp only [sz, ss]
          refine wpAnyH_ready (rs := [13]) (by kernel_rfl) (by simp) ?_
          refine AllReadyH.cons rfl (fun K hK => ?_) AllReadyH.nil
          go_simp
          have bC8 : Hid (Box (w7.setCell ⟨bq, oq + 1, none⟩ (.slice a7 (insK (kidsOf (endP d (path.take m))) k x).length c7)) w.heap.size [.slice ap path.length cp, .string (strT x), .slice ax (kidsOf x).length cx] 94) := bC7.out.other (by have := bC3.out.lt; exact hneq.out) _
          have r8h : Hid (RowIs (w7.setCell ⟨bq, oq + 1, none⟩ (.slice a7 (insK (kidsOf (endP d (path.take m))) k x).length c7)) bq oq C8 T8 [.string (strT (endP d (path.take m))), .slice a7 (insK (kidsOf (endP d (path.take m))) k x).length c7]) := r7h.out.set (m := 1) (by simp) _
          refine hK.out _ _ ⟨bC8.out.cell 1 rfl, bC8.out.cell 2 rfl⟩ (fun hHeld => ?_)
          clear hK K
          refine wpAnyH_done (by kernel_rfl) ?_ _
          have k0 := bC8.out.cell 0 rfl
          go_wp2_with fail
          go_ret2
          have hO8 : Out (bq :: fs8) w (w7.setCell ⟨bq, oq + 1, none⟩ (.slice a7 (insK (kidsOf (endP d (path.take m))) k x).length c7)) := Out.set ((out_of_below (hB3.out.trans (hb6h.out.mono hB3.out.size))).trans (hO7h.out.wider (fun x hx => List.mem_cons_of_mem _ hx))) List.mem_cons_self _
          have hb7 : bq ∉ fs7 := fun q => by
            rcases hf7h.out bq q with q | q | q
            · exact y5h.out q
            · have h1 := lo5h.out bq q; have h2 := hbql.out; have h3 := hB3.out.size; omega
            · have h1 := hb5h.out.size; have h2 := hbql.out; have h3 := hB3.out.size; simp only [World.size_alloc] at q; omega
          refine Or.inl ⟨hokh.out, hp0, by omega, rfl, ?_, hO8.wider hsub.out⟩
          obtain ⟨cs3, fs3, q⟩ := y10h.out _ _ (mkT (strT (endP d (path.take m))) (insK (kidsOf (endP d (path.take m))) k x)) fs7 (n8 - 1 + nx + 1) rfl r8h.out hO8 ⟨_, fs7, rfl, SeqOwn.stays (TreeO_stays _) hs7h.out (fun x hx => set_other (fun q => hb7 (by rw [← q]; exact hx)) _), tgh.out, rfl⟩ hn7h.out hb7 (fun y hy => by
            rcases hf7h.out y hy with q | q | q
            · exact Or.inl q
            · have h1 := lo5h.out y q; have h3 := hB3.out.size; exact Or.inr (by omega)
            · have h1 := hb5h.out.size; have h3 := hB3.out.size; simp only [World.size_alloc] at q; exact Or.inr (by omega))
          exact ⟨cs3, fs3, _, q⟩
        · go_simp
          refine (cpI_all nx _ lo _ _ x (by exact TreeAt.below htx.out (Below.drew hB3.out)) hRx.out).mono ?_
          rintro e w5 ⟨⟨cs5, fs5, rfl, ho5, nd5, lo5⟩, hb5⟩
          have hb5h : Hid (Below w3.heap.size w3 w5) := undrew hb5
          obtain ⟨k5, rfl, hs5, _⟩ := ho5.opened
          obtain ⟨a5, c5, rfl⟩ := hs5.form
          have ho5h : Hid (TreeO nx w5 [.string (strT x), .slice a5 (kidsOf x).length c5] x fs5) := ho5
          have nd5h : Hid (fs5.Nodup) := nd5
          have lo5h : Hid (∀ b ∈ fs5, w3.heap.size ≤ b) := lo5
          clear ho5 nd5 lo5 hb5 hs5
          refine hK.out _ _ (hSall.out _ hb5h.out) (fun hHeld => ?_)
          clear hK K
          refine wpAnyH_ready (rs := [4, 9]) (by kernel_rfl) (by simp) ?_
          refine (AllReadyH.cons rfl (fun K hK => ?_) (AllReadyH.cons rfl (fun K hK => ?_) AllReadyH.nil))
          · have cF : w5.cell? ⟨bq, oq + 1, none⟩ = some (.slice a8 (kidsOf (endP d (path.take m))).length c8) := hSk.out _ hb5h.out
            go_simp
            clear cF
            refine hK.out _ _ hHeld (fun hHeld => ?_)
            clear hK K
            refine wpAnyH_ready (rs := [9]) (by kernel_rfl) (by simp) ?_
            refine AllReadyH.cons rfl (fun K hK => ?_) AllReadyH.nil
            go_simp
            have hb6h : Hid (Below w3.heap.size w3 (w5.alloc (.cells #[.string (strT x), .slice a5 (kidsOf x).length c5] 33))) := hb5h.out.alloc (by have := hb5h.out.size; exact this) _
            refine hK.out _ _ (hSall.out _ hb6h.out) (fun hHeld => ?_)
            clear hK K
            refine wpAnyH_ready (rs := [10]) (by kernel_rfl) (by simp) ?_
            refine AllReadyH.cons rfl (fun K hK => ?_) AllReadyH.nil
            go_simp
            refine (kids_insert (n := n8 - 1 + nx) (w := (w5.alloc (.cells #[.string (strT x), .slice a5 (kidsOf x).length c5] 33))) (vb := w5.heap.size) (TV := 33) (fs := fs8) (fx := fs5) (x := x) (by exact hs6.out w5 _ hb5h.out) (by exact hroom.out w5 _ hb5h.out) (by omega) (by omega) (by exact hx6.out w5 _ _ _ hb5h.out ho5h.out) nd5h.out (by exact hap.out w5 fs5 hb5h.out lo5h.out) (by exact Box.new w5 [_, _] _) (by exact hvb.out w5 hb5h.out)).mono ?_
            rintro e w7 ⟨a7, c7, fs7, rfl, hs7, hn7, hf7, hO7⟩
            have hs7h : Hid _ := hs7
            have hn7h : Hid _ := hn7
            have hf7h : Hid _ := hf7
            have hO7h : Hid (Out fs8 (w5.alloc (.cells #[.string (strT x), .slice a5 (kidsOf x).length c5] 33)) w7) := hO7
            clear hs7 hn7 hf7
            have r7 := (y1h.out.below (hB3.out.trans (hb6h.out.mono hB3.out.size))).out hO7 y5h.out
            have bC7 : Hid (Box w7 w.heap.size [.slice ap path.length cp, .string (strT x), .slice ax (kidsOf x).length cx] 94) := (hO7.keep (bC6.out w5 _ hb5h.out).lt hne8.out).trans (bC6.out w5 _ hb5h.out)
            have r71 := r7.cell 1 rfl
            have f71 := r7.unfrozen (oq + 1)
            have r7h : Hid (RowIs w7 bq oq C8 T8 [.string (strT (endP d (path.take m))), .slice a8 (kidsOf (endP d (path.take m))).length c8]) := r7
            clear hO7 r7
            refine hK.out _ _ ⟨bC7.out.cell 1 rfl, bC7.out.cell 2 rfl⟩ (fun hHeld => ?_)
            clear hK K
            refine tq (i := 11) (d := 44) ?_
            simp only [sz, ss]
            refine tq (i := 12) (d := 45) ?_
            simp only [sz, ss]
            refine wpAnyH_ready (rs := [13]) (by kernel_rfl) (by simp) ?_
            refine AllReadyH.cons rfl (fun K hK => ?_) AllReadyH.nil
            go_simp
            have bC8 : Hid (Box (w7.setCell ⟨bq, oq + 1, none⟩ (.slice a7 (insK (kidsOf (endP d (path.take m))) k x).length c7)) w.heap.size [.slice ap path.length cp, .string (strT x), .slice ax (kidsOf x).length cx] 94) := bC7.out.other (by have := bC3.out.lt; exact hneq.out) _
            have r8h : Hid (RowIs (w7.setCell ⟨bq, oq + 1, none⟩ (.slice a7 (insK (kidsOf (endP d (path.take m))) k x).length c7)) bq oq C8 T8 [.string (strT (endP d (path.take m))), .slice a7 (insK (kidsOf (endP d (path.take m))) k x).length c7]) := r7h.out.set (m := 1) (by simp) _
            refine hK.out _ _ ⟨bC8.out.cell 1 rfl, bC8.out.cell 2 rfl⟩ (fun hHeld => ?_)
            clear hK K
            refine wpAnyH_done (by kernel_rfl) ?_ _
            have k0 := bC8.out.cell 0 rfl
            go_wp2_with fail
            go_ret2
            have hO8 : Out (bq :: fs8) w (w7.setCell ⟨bq, oq + 1, none⟩ (.slice a7 (insK (kidsOf (endP d (path.take m))) k x).length c7)) := Out.set ((out_of_below (hB3.out.trans (hb6h.out.mono hB3.out.size))).trans (hO7h.out.wider (fun x hx => List.mem_cons_of_mem _ hx))) List.mem_cons_self _
            have hb7 : bq ∉ fs7 := fun q => by
              rcases hf7h.out bq q with q | q | q
              · exact y5h.out q
              · have h1 := lo5h.out bq q; have h2 := hbql.out; have h3 := hB3.out.size; omega
              · have h1 := hb5h.out.size; have h2 := hbql.out; have h3 := hB3.out.size; simp only [World.size_alloc] at q; omega
            refine Or.inl ⟨hokh.out, hp0, by omega, rfl, ?_, hO8.wider hsub.out⟩
            obtain ⟨cs3, fs3, q⟩ := y10h.out _ _ (mkT (strT (endP d (path.take m))) (insK (kidsOf (endP d (path.take m))) k x)) fs7 (n8 - 1 + nx + 1) rfl r8h.out hO8 ⟨_, fs7, rfl, SeqOwn.stays (TreeO_stays _) hs7h.out (fun x hx => set_other (fun q => hb7 (by rw [← q]; exact hx)) _), tgh.out, rfl⟩ hn7h.out hb7 (fun y hy => by
              rcases hf7h.out y hy with q | q | q
              · exact Or.inl q
              · have h1 := lo5h.out y q; have h3 := hB3.out.size; exact Or.inr (by omega)
              · have h1 := hb5h.out.size; have h3 := hB3.out.size; simp only [World.size_alloc] at q; exact Or.inr (by omega))
            exact ⟨cs3, fs3, _, q⟩
          · go_simp
            have hb6h : Hid (Below w3.heap.size w3 (w5.alloc (.cells #[.string (strT x), .slice a5 (kidsOf x).length c5] 33))) := hb5h.out.alloc (by have := hb5h.out.size; exact this) _
            refine hK.out _ _ (hSall.out _ hb6h.out) (fun hHeld => ?_)
            clear hK K
            refine wpAnyH_ready (rs := [4]) (by kernel_rfl) (by simp) ?_
            refine AllReadyH.cons rfl (fun K hK => ?_) AllReadyH.nil
            have cF : (w5.alloc (.cells #[.string (strT x), .slice a5 (kidsOf x).length c5] 33)).cell? ⟨bq, oq + 1, none⟩ = some (.slice a8 (kidsOf (endP d (path.take m))).length c8) := hSk.out _ hb6h.out
            go_simp
            clear cF
            refine hK.out _ _ hHeld (fun hHeld => ?_)
            clear hK K
            refine wpAnyH_ready (rs := [10]) (by kernel_rfl) (by simp) ?_
            refine AllReadyH.cons rfl (fun K hK => ?_) AllReadyH.nil
            go_simp
            refine (kids_insert (n := n8 - 1 + nx) (w := (w5.alloc (.cells #[.string (strT x), .slice a5 (kidsOf x).length c5] 33))) (vb := w5.heap.size) (TV := 33) (fs := fs8) (fx := fs5) (x := x) (by exact hs6.out w5 _ hb5h.out) (by exact hroom.out w5 _ hb5h.out) (by omega) (by omega) (by exact hx6.out w5 _ _ _ hb5h.out ho5h.out) nd5h.out (by exact hap.out w5 fs5 hb5h.out lo5h.out) (by exact Box.new w5 [_, _] _) (by exact hvb.out w5 hb5h.out)).mono ?_
            rintro e w7 ⟨a7, c7, fs7, rfl, hs7, hn7, hf7, hO7⟩
            have hs7h : Hid _ := hs7
            have hn7h : Hid _ := hn7
            have hf7h : Hid _ := hf7
            have hO7h : Hid (Out fs8 (w5.alloc (.cells #[.string (strT x), .slice a5 (kidsOf x).length c5] 33)) w7) := hO7
            clear hs7 hn7 hf7
            have r7 := (y1h.out.below (hB3.out.trans (hb6h.out.mono hB3.out.size))).out hO7 y5h.out
            have bC7 : Hid (Box w7 w.heap.size [.slice ap path.length cp, .string (strT x), .slice ax (kidsOf x).length cx] 94) := (hO7.keep (bC6.out w5 _ hb5h.out).lt hne8.out).trans (bC6.out w5 _ hb5h.out)
            have r71 := r7.cell 1 rfl
            have f71 := r7.unfrozen (oq + 1)
            have r7h : Hid (RowIs w7 bq oq C8 T8 [.string (strT (endP d (path.take m))), .slice a8 (kidsOf (endP d (path.take m))).length c8]) := r7
            clear hO7 r7
            refine hK.out _ _ ⟨bC7.out.cell 1 rfl, bC7.out.cell 2 rfl⟩ (fun hHeld => ?_)
            clear hK K
            refine tq (i := 11) (d := 44) ?_
            simp only [sz, ss]
            refine tq (i := 12) (d := 45) ?_
            simp only [sz, ss]
            refine wpAnyH_ready (rs := [13]) (by kernel_rfl) (by simp) ?_
            refine AllReadyH.cons rfl (fun K hK => ?_) AllReadyH.nil
            go_simp
            have bC8 : Hid (Box (w7.setCell ⟨bq, oq + 1, none⟩ (.slice a7 (insK (kidsOf (endP d (path.take m))) k x).length c7)) w.heap.size [.slice ap path.length cp, .string (strT x), .slice ax (kidsOf x).length cx] 94) := bC7.out.other (by have := bC3.out.lt; exact hneq.out) _
            have r8h : Hid (RowIs (w7.setCell ⟨bq, oq + 1, none⟩ (.slice a7 (insK (kidsOf (endP d (path.take m))) k x).length c7)) bq oq C8 T8 [.string (strT (endP d (path.take m))), .slice a7 (insK (kidsOf (endP d (path.take m))) k x).length c7]) := r7h.out.set (m := 1) (by simp) _
            refine hK.out _ _ ⟨bC8.out.cell 1 rfl, bC8.out.cell 2 rfl⟩ (fun hHeld => ?_)
            clear hK K
            refine wpAnyH_done (by kernel_rfl) ?_ _
            have k0 := bC8.out.cell 0 rfl
            go_wp2_with fail
            go_ret2
            have hO8 : Out (bq :: fs8) w (w7.setCell ⟨bq, oq + 1, none⟩ (.slice a7 (insK (kidsOf (endP d (path.take m))) k x).length c7)) := Out.set ((out_of_below (hB3.out.trans (hb6h.out.mono hB3.out.size))).trans (hO7h.out.wider (fun x hx => List.mem_cons_of_mem _ hx))) List.mem_cons_self _
            have hb7 : bq ∉ fs7 := fun q => by
              rcases hf7h.out bq q with q | q | q
              · exact y5h.out q
              · have h1 := lo5h.out bq q; have h2 := hbql.out; have h3 := hB3.out.size; omega
              · have h1 := hb5h.out.size; have h2 := hbql.out; have h3 := hB3.out.size; simp only [World.size_alloc] at q; omega
            refine Or.inl ⟨hokh.out, hp0, by omega, rfl, ?_, hO8.wider hsub.out⟩
            obtain ⟨cs3, fs3, q⟩ := y10h.out _ _ (mkT (strT (endP d (path.take m))) (insK (kidsOf (endP d (path.take m))) k x)) fs7 (n8 - 1 + nx + 1) rfl r8h.out hO8 ⟨_, fs7, rfl, SeqOwn.stays (TreeO_stays _) hs7h.out (fun x hx => set_other (fun q => hb7 (by rw [← q]; exact hx)) _), tgh.out, rfl⟩ hn7h.out hb7 (fun y hy => by
              rcases hf7h.out y hy with q | q | q
              · exact Or.inl q
              · have h1 := lo5h.out y q; have h3 := hB3.out.size; exact Or.inr (by omega)
              · have h1 := hb5h.out.size; have h3 := hB3.out.size; simp only [World.size_alloc] at q; exact Or.inr (by omega))
            exact ⟨cs3, fs3, _, q⟩
      · have hp2 : ¬ (P < 0) := by omega
        have hp3 : ((kidsOf (endP d (path.take m))).length : Int) < P := by omega
        go_wp2_with fail
        go_ret2
        exact Or.inr ⟨fun q => by have := q.2.2; omega, rfl, hB3.out⟩
    · have hp2 : P < 0 := by omega
      go_wp2_with fail
      go_ret2
      exact Or.inr ⟨fun q => by have := q.2.1; omega, rfl, hB3.out⟩
  · have hok' : Hid (okP d (path.take m) = false) := hoka
    go_wp2_with fail
    go_ret2
    exact Or.inr ⟨fun q => absurd q.1 (by rw [hok'.out]; simp), rfl, hB3.out⟩
end Go.Proofs.Ytfncmndgdomjiaa
