/- deleteIn of the program: walked. -/
import Derived.Test.YtndffcogddefiaaEdDel3
namespace Go.Proofs.Ytndffcogddefiaa
open Go.RowKit Go.Deep
/-- what deleteIn answers -/
def DelInR (w w' : World) (R : Nat) (C : Array Value) (fs : List Nat) (d : TD) (kp : Value) (path : List Int) (y : TD) (e : Ending) : Prop :=
  (okP d path = true ∧ ∃ (k1 : Value) (fi : List Nat) (n3 : Nat), e = .returned (.tuple #[.iface 90 (.agg #[kp, .string (strT (endP d path)), k1]), .bool true]) ∧ TreeO n3 w' [.string (strT (endP d path)), k1] (endP d path) fi ∧ fi.Nodup ∧ (∀ b ∈ fi, b ∈ fs) ∧ Turned w w' R C fs y ∧ Out (R :: fs) w w') ∨ (okP d path = false ∧ e = .returned (.tuple #[.nilIface, .bool false]) ∧ Below w.heap.size w w')
set_option maxRecDepth 100000 in
set_option maxHeartbeats 8000000 in
theorem deleteIn_any {w : World} {n R lo m cp : Nat} {ap : Option Addr} {C : Array Value} {cs : List Value} {d : TD} {fs : List Nat} {path : List Int} {p : Int} (hrow0 : RowIs w R 0 C 26 cs) (hl0 : cs.length = 2) (ht0 : TreeO n w cs d fs) (hnd0 : fs.Nodup) (hb00 : R ∉ fs) (hp0 : SeqAt 1 IntAt w lo (.slice ap path.length cp) path) (hpt0 : SeqAt 1 IntAt w lo (.slice ap m cp) (path.take m)) (hm0 : path.length = m + 1) (hcp0 : path.length ≤ cp) (hpp : path = path.take m ++ [p]) :
    Calls Try.prog 67 #[.pointer (some ⟨R, 0, none⟩), .agg #[.slice ap path.length cp]] w fun e w' => DelInR w w' R C fs d (.slice ap path.length cp) path (setP d (path.take m) (mkT (strT (endP d (path.take m))) ((kidsOf (endP d (path.take m))).eraseIdx p.toNat))) e := by
  have hrow : Hid (RowIs w R 0 C 26 cs) := hrow0
  have hl : Hid (cs.length = 2) := hl0
  have ht : Hid (TreeO n w cs d fs) := ht0
  have hnd : Hid (fs.Nodup) := hnd0
  have hb : Hid (R ∉ fs) := hb00
  have hp : Hid (SeqAt 1 IntAt w lo (.slice ap path.length cp) path) := hp0
  have hpt : Hid (SeqAt 1 IntAt w lo (.slice ap m cp) (path.take m)) := hpt0
  have hm : Hid (path.length = m + 1) := hm0
  have hcp : Hid (path.length ≤ cp) := hcp0
  have hpq : Hid (path = path.take m ++ [p]) := hpp
  clear hrow0 hl0 ht0 hnd0 hb00 hp0 hpt0 hm0 hcp0 hpp
  have hb0 : Hid (Below w.heap.size w (w.alloc (.cells #[.slice ap path.length cp] 88))) := (Below.refl _ _).alloc (Nat.le_refl _) _
  have bC0 : Hid (Box (w.alloc (.cells #[.slice ap path.length cp] 88)) w.heap.size [.slice ap path.length cp] 88) := Box.new w _ _
  have hfl : Hid (∀ x ∈ fs, x < w.heap.size) := fun x hx => TreeO_lt n _ _ _ _ ht.out x hx
  have hcall : Hid (Calls Try.prog 74 #[.pointer (some ⟨R, 0, none⟩), .slice ap path.length cp] (w.alloc (.cells #[.slice ap path.length cp] 88)) fun e w' => NodeR (w.alloc (.cells #[.slice ap path.length cp] 88)) R 0 d path e ∧ Below (w.alloc (.cells #[.slice ap path.length cp] 88)).heap.size (w.alloc (.cells #[.slice ap path.length cp] 88)) w') :=
    nodeAt_any (hrow.out.below hb0.out) hl.out (TreeO_stays n _ _ _ _ _ (fun x hx => hb0.out.block x (hfl.out x hx)) ht.out) hnd.out hb.out (hp.out.below intAt_stays hb0.out)
  go_enter Try.func67, Try.ntmps67
  have p0 := bC0.out.cell 0 rfl
  go_wp2_with fail
  refine hcall.out.mono ?_
  rintro e w1 ⟨hn, hb1⟩
  have hB1 : Hid (Below w.heap.size w w1) := hb0.out.trans (hb1.mono (by simp))
  have bC1 : Hid (Box w1 w.heap.size [.slice ap path.length cp] 88) := bC0.out.below hb1 bC0.out.lt
  clear p0 bC0 hcall
  rcases hn with ⟨hok, b9, o9, rfl, hloc⟩ | ⟨hok, rfl⟩
  · have hok' : Hid (okP d path = true) := hok
    obtain ⟨b', o', n', C', T', cs', fs', z1, z2, z3, z4, z5, z6, z7, _, z9, _⟩ := zoom path n w R 0 C 26 cs d fs hrow.out hl.out ht.out hnd.out hb.out hok
    obtain ⟨rfl, rfl⟩ := LocP.one _ hloc (LocP.keep _ z9 hb0.out)
    obtain ⟨k2, rfl, hsq, _⟩ := z3.opened
    obtain ⟨a2, c2, rfl⟩ := hsq.form
    have hSall : Hid (∀ W', Below w1.heap.size w1 W' → W'.cell? ⟨w.heap.size, 0, none⟩ = some (.slice ap path.length cp) ∧ W'.cell? ⟨b9, o9, none⟩ = some (.string (strT (endP d path))) ∧ W'.cell? ⟨b9, o9 + 1, none⟩ = some (.slice a2 (kidsOf (endP d path)).length c2)) := fun W' hb => by
      have q := z1.below (hB1.out.trans (hb.mono hB1.out.size))
      have q0 := q.cell 0 rfl
      have q1 := q.cell 1 rfl
      simp only [Nat.add_zero] at q0
      exact ⟨(bC1.out.below hb bC1.out.lt).cell 0 rfl, q0, q1⟩
    have z1' : Hid (RowIs w b9 o9 C' T' [.string (strT (endP d path)), .slice a2 (kidsOf (endP d path)).length c2]) := z1
    have zl : Hid (LocP w R 0 path b9 o9) := z9
    clear hloc hsq z1 z2 z3 z4 z5 z6 z7 z9 hb1 hok
    go_upto_region 4 with fail
    refine wp_region_held_drew (S := fun w' => w'.cell? ⟨w.heap.size, 0, none⟩ = some (.slice ap path.length cp) ∧ w'.cell? ⟨b9, o9, none⟩ = some (.string (strT (endP d path))) ∧ w'.cell? ⟨b9, o9 + 1, none⟩ = some (.slice a2 (kidsOf (endP d path)).length c2)) (by kernel_rfl) (hSall.out _ (Below.drew (Below.refl _ _))) (fun hHeld => ?_)
    refine tq (i := 0) (d := 17) ?_
    simp only [sz, ss]
    refine tq (i := 1) (d := 18) ?_
    simp only [sz, ss]
    refine tq (i := 2) (d := 19) ?_
    simp only [sz, ss]
    refine tq (i := 3) (d := 20) ?_
    simp only [sz, ss]
    refine tq (i := 4) (d := 21) ?_
    simp only [sz, ss]
    refine tq (i := 5) (d := 22) ?_
    simp only [sz, ss]
    refine wpAnyH_ready (rs := [6]) (by kernel_rfl) (by simp) ?_
    refine AllReadyH.cons rfl (fun K hK => ?_) AllReadyH.nil
    go_simp
    refine hK.out _ _ (hSall.out _ ((Below.drew (Below.refl w1.heap.size w1)).alloc (Nat.le_refl _) _)) (fun hHeld => ?_)
    clear hK K
    refine wpAnyH_ready (rs := [7]) (by kernel_rfl) (by simp) ?_
    refine AllReadyH.cons rfl (fun K hK => ?_) AllReadyH.nil
    go_simp
    refine hK.out _ _ (hSall.out _ ((Below.drew (Below.refl w1.heap.size w1)).alloc (Nat.le_refl _) _)) (fun hHeld => ?_)
    clear hK K
    refine wpAnyH_done (by kernel_rfl) ?_ _
    obtain ⟨wz, hwz⟩ : ∃ wz, (w1.alloc (.cells #[.slice ap path.length cp, .string (strT (endP d path)), .slice a2 (kidsOf (endP d path)).length c2] 90)).drew = wz := ⟨_, rfl⟩
    rw [hwz]
    have hBz : Hid (Below w1.heap.size w1 wz) := by rw [← hwz]; exact Below.drew ((Below.refl _ _).alloc (Nat.le_refl _) _)
    have bB : Hid (Box wz w1.heap.size [.slice ap path.length cp, .string (strT (endP d path)), .slice a2 (kidsOf (endP d path)).length c2] 90) := by rw [← hwz]; exact Box.new w1 _ _
    clear hwz
    have bCz : Hid (Box wz w.heap.size [.slice ap path.length cp] 88) := bC1.out.below hBz.out bC1.out.lt
    have hBwz : Hid (Below w.heap.size w wz) := hB1.out.trans (hBz.out.mono hB1.out.size)
    have c0 := bCz.out.cell 0 rfl
    go_wp2_with fail
    refine (splitPath_any (hp.out.below intAt_stays hBwz.out) hm.out hcp.out).mono ?_
    rintro e w2 ⟨P, ⟨rfl, hpath⟩, hb2⟩
    have hB2 : Hid (Below w.heap.size w w2) := hBwz.out.trans (hb2.mono hBwz.out.size)
    have hpa : Hid (path = path.take m ++ [P]) := hpath
    have hsz1 : Hid (w1.heap.size < wz.heap.size) := bB.out.lt
    have bB2 : Hid (Box w2 w1.heap.size [.slice ap path.length cp, .string (strT (endP d path)), .slice a2 (kidsOf (endP d path)).length c2] 90) := bB.out.below hb2 bB.out.lt
    clear c0 hpath bB bCz
    have hok2 : okP d (path.take m) = true ∧ inB (endP d (path.take m)) P = true := by
      have q := hok'.out
      rw [hpa.out, okP_snoc] at q
      simpa using q
    obtain ⟨hoka, hin⟩ := hok2
    have hend : Hid (endP d path = kidP (endP d (path.take m)) P) := (congrArg (endP d) hpa.out).trans (by simp [endP])
    obtain ⟨b8, o8, n8, C8, T8, cs8, fs8, y1, y2, y3, y4, y5, y6, y7, _, y9, y10⟩ := zoom (path.take m) n w R 0 C 26 cs d fs hrow.out hl.out ht.out hnd.out hb.out hoka
    go_wp2_with fail
    refine (nodeAt_any (hrow.out.below hB2.out) hl.out (TreeO_stays n _ _ _ _ _ (fun x hx => hB2.out.block x (hfl.out x hx)) ht.out) hnd.out hb.out (hpt.out.below intAt_stays hB2.out)).mono ?_
    rintro e w3 ⟨hn3, hb3⟩
    rcases hn3 with ⟨_, bq, oq, rfl, hloc3⟩ | ⟨q, _⟩
    rotate_left
    · exact absurd hoka (by rw [q]; simp)
    obtain ⟨rfl, rfl⟩ := LocP.one _ hloc3 (LocP.keep _ y9 hB2.out)
    have hB3 : Hid (Below w.heap.size w w3) := hB2.out.trans (hb3.mono hB2.out.size)
    have bB3 : Hid (Box w3 w1.heap.size [.slice ap path.length cp, .string (strT (endP d path)), .slice a2 (kidsOf (endP d path)).length c2] 90) := bB2.out.below hb3 bB2.out.lt
    have hsz3 : Hid (w.heap.size ≤ w1.heap.size) := hB1.out.size
    have hPp : P = p := by
      have q := hpa.out.symm.trans hpq.out
      have q2 := List.append_cancel_left q
      injection q2
    subst hPp
    obtain ⟨k8, rfl, hs8, htg8⟩ := y3.opened
    have hin2 : 0 ≤ P ∧ P < ((kidsOf (endP d (path.take m))).length : Int) := by simpa [inB] using hin
    obtain ⟨hp0, hp1⟩ := hin2
    obtain ⟨k, rfl⟩ := Int.eq_ofNat_of_zero_le hp0
    have hk : k < (kidsOf (endP d (path.take m))).length := by omega
    obtain ⟨a8, c8, rfl⟩ := hs8.form
    obtain ⟨g, off, rfl, hg8⟩ : ∃ g off, a8 = some ⟨g, off, none⟩ ∧ g ∈ fs8 := by
      obtain ⟨a', c', e', _, hx⟩ := hs8
      injection e' with e1 _ _
      subst e1
      rcases hx with ⟨h0, _⟩ | ⟨b1, o1, e, _, _, _, _, _, _, rfl, _⟩
      · omega
      · exact ⟨b1, o1, e, List.mem_cons_self⟩
    have hlen8 : (kidsOf (endP d (path.take m))).length ≤ maxLen := by obtain ⟨_, _, _, q, _⟩ := hs8; exact q.1
    have hwr : wrap64 ((k : Int) + 1) = (k : Int) + 1 := by unfold maxLen at hlen8; unfold wrap64; omega
    clear hlen8
    have y1w := y1.cell 1 rfl
    have hlk : Hid (b9 = g ∧ o9 = off + k * 2) := by
      have q := LocP.snoc (p := (k : Int)) (path.take m) y9 y1w
      rw [← hpa.out] at q
      have q2 := LocP.one _ zl.out q
      show _ ∧ _
      simpa using q2
    have hs3 : Hid (SeqOwn 2 (TreeO (n8 - 1)) w3 (.slice (some ⟨g, off, none⟩) (kidsOf (endP d (path.take m))).length c8) (kidsOf (endP d (path.take m))) fs8) := hs8.stays (TreeO_stays _) (fun x hx => hB3.out.block x (hfl.out x (y7 x hx)))
    have r3 := y1.below hB3.out
    have r30 := r3.cell 0 rfl
    have r31 := r3.cell 1 rfl
    simp only [Nat.add_zero] at r30
    have hk' : Hid (k < (kidsOf (endP d (path.take m))).length) := hk
    have y1h : Hid _ := y1
    have y4h : Hid _ := y4
    have y5h : Hid _ := y5
    have y6h : Hid _ := y6
    have y7h : Hid _ := y7
    have y10h : Hid _ := y10
    have g8h : Hid _ := hg8
    have tgh : Hid _ := htg8
    have y3h : Hid _ := y3
    clear y1 y4 y5 y6 y7 y9 y10 hg8 htg8 hs8 y1w y2 hin hoka y3 hp0 hp1 hk hloc3 hb3 hb2
    go_wp2_with fail
    refine (kids_delete hs3.out hk'.out).mono ?_
    rintro e w4 ⟨rfl, hO4, fs9, cs9, fi, s1, s2, s3, s4, s5, ⟨_, s6⟩, s7, s8, s9⟩
    have r4 := r3.out hO4 (fun q => y5h.out (by rw [List.mem_singleton.1 q]; exact g8h.out))
    have r41 := r4.cell 1 rfl
    have f4 := r4.unfrozen
    have hset := r4.set (m := 1) (by simp) (.slice (some ⟨g, off, none⟩) ((kidsOf (endP d (path.take m))).eraseIdx k).length c8)
    have r4s : Hid (RowIs (w4.setCell ⟨bq, oq + 1, none⟩ (.slice (some ⟨g, off, none⟩) ((kidsOf (endP d (path.take m))).eraseIdx k).length c8)) bq oq C8 T8 [.string (strT (endP d (path.take m))), .slice (some ⟨g, off, none⟩) ((kidsOf (endP d (path.take m))).eraseIdx k).length c8]) := hset
    have hOh : Hid (Out [g] w3 w4) := hO4
    have bB4 : Hid (Box w4 w1.heap.size [.slice ap path.length cp, .string (strT (endP d path)), .slice a2 (kidsOf (endP d path)).length c2] 90) := (hO4.keep bB3.out.lt (fun q => by have q1 := List.mem_singleton.1 q; have q2 := hfl.out g (y7h.out g g8h.out); have := hsz3.out; omega)).trans bB3.out
    have bB5 : Hid (Box (w4.setCell ⟨bq, oq + 1, none⟩ (.slice (some ⟨g, off, none⟩) ((kidsOf (endP d (path.take m))).eraseIdx k).length c8)) w1.heap.size [.slice ap path.length cp, .string (strT (endP d path)), .slice a2 (kidsOf (endP d path)).length c2] 90) := bB4.out.other (by have q := RowIs.lt y1h.out; have := hsz3.out; omega) _
    have k0 := bB5.out.cell 0 rfl
    have k1 := bB5.out.cell 1 rfl
    have k2 := bB5.out.cell 2 rfl
    have s1h : Hid _ := s1
    have s2h : Hid _ := s2
    have s3h : Hid _ := s3
    have s4h : Hid _ := s4
    have s5h : Hid _ := s5
    have s6h : Hid _ := s6
    have s7h : Hid _ := s7
    have s8h : Hid _ := s8
    clear hset r3 r30 r31 r4 hO4 s1 s2 s3 s4 s5 s6 s7 s8 s9
    go_wp2_with fail
    go_ret2
    have hO5 : Out (bq :: fs8) w (w4.setCell ⟨bq, oq + 1, none⟩ (.slice (some ⟨g, off, none⟩) ((kidsOf (endP d (path.take m))).eraseIdx k).length c8)) := Out.set ((out_of_below hB3.out).trans (hOh.out.wider (fun x hx => by rw [List.mem_singleton.1 hx]; exact List.mem_cons_of_mem _ g8h.out))) List.mem_cons_self _
    have hbq9 : bq ∉ fs9 := fun q => y5h.out (s2h.out _ q)
    have hsub : ∀ x ∈ bq :: fs8, x ∈ R :: fs := fun x hx => by
      rcases List.mem_cons.1 hx with rfl | hx
      · rcases y6h.out with q | q
        · rw [q]; exact List.mem_cons_self
        · exact List.mem_cons_of_mem _ q
      · exact List.mem_cons_of_mem _ (y7h.out x hx)
    refine Or.inl ⟨hok'.out, .slice a2 (kidsOf (endP d path)).length c2, fi, n8 - 1, rfl, ?_, s7h.out, fun b hb => y7h.out b (s8h.out b hb), ?_, hO5.wider hsub⟩
    · have q9 := RowIs.below z1'.out hB3.out
      have q0 := q9.cell 0 rfl
      have q1 := q9.cell 1 rfl
      rw [hlk.out.1, hlk.out.2] at q0 q1
      have e0 := s5h.out 0 (by omega)
      have e1 := s5h.out 1 (by omega)
      rw [q0] at e0
      rw [q1] at e1
      have hl9 := s4h.out
      have hcs : cs9 = [.string (strT (endP d path)), .slice a2 (kidsOf (endP d path)).length c2] := by
        match cs9, hl9, e0, e1 with
        | [x, y], _, e0, e1 => simp at e0 e1; rw [e0, e1]
      have hkid : (kidsOf (endP d (path.take m)))[k]'hk'.out = endP d path := by
        rw [hend.out]
        simp [kidP, nth, hk'.out]
      have s6 := s6h.out
      rw [hkid, hcs] at s6
      exact TreeO_stays _ w4 _ _ _ _ (fun x hx => set_other (fun q => y5h.out (by rw [← q]; exact s8h.out x hx)) _) s6
    · obtain ⟨cs3, fs3, q⟩ := y10h.out _ _ (mkT (strT (endP d (path.take m))) ((kidsOf (endP d (path.take m))).eraseIdx k)) fs9 n8 rfl r4s.out hO5 (by
        have y3 := y3h.out
        cases n8 with
        | zero => exact y3.elim
        | succ n8 =>
          refine ⟨_, fs9, rfl, ?_, tgh.out, rfl⟩
          exact SeqOwn.stays (TreeO_stays n8) s1h.out (fun x hx => set_other (fun q => hbq9 (by rw [← q]; exact hx)) _)) s3h.out hbq9 (fun x hx => Or.inl (s2h.out x hx))
      exact ⟨cs3, fs3, _, q⟩
  · have hok' : Hid (okP d path = false) := hok
    go_wp2_with fail
    go_ret2
    exact Or.inr ⟨hok'.out, rfl, hB1.out⟩
end Go.Proofs.Ytndffcogddefiaa
