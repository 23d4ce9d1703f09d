/- A tree is read: treeFrom of the program. -/
import Derived.Test.YtbodeijffpepfaaRtSt
import Derived.Test.YtbodeijffpepfaaTakeLit
namespace Go.Proofs.Ytbodeijffpepfaa
open Go.RowKit Go.Deep
theorem infoTri : ((Try.prog.info? 48).map fun i => (i.zero, i.bytes, i.size)) = some (some (.agg #[.string ByteArray.empty, .slice none 0 0]), 40, 2) := by kernel_rfl
/-- room, as it stands in memory -/
def roomW (g : Nat) (w : World) : Nat := match w.cell? ⟨g, 2, none⟩ with
  | some v => (intOf v).toNat
  | none => 0
theorem roomW_at {w : World} {g : Nat} {s : ByteArray} {p k : Nat} (h : TrAt w g s p k) : roomW g w = k := by
  have := h.cell 2 rfl
  simp [roomW, this, intOf]
def TrF (n : Nat) : Prop := ∀ (w : World) (g : Nat) (s : ByteArray) (p : Nat), TrAt w g s p n → p ≤ s.size → s.size ≤ 1048576 →
  Calls Try.prog 56 #[.pointer (some ⟨g, 0, none⟩)] w fun e w' =>
    (∃ (cs : List Value) (x : TD) (fs : List Nat) (c p' : Nat), e = .returned (.agg cs.toArray) ∧ TreeO n w' cs x fs ∧ fs.Nodup ∧ (∀ b ∈ fs, w.heap.size + 1 ≤ b) ∧ TrAt w' g s p' (n - c) ∧ c ≤ n ∧ p' ≤ s.size ∧ Gd n x c (rest s p) (rest s p') ∧ w.grownBy w' (some g)) ∨
    (e = .panicked gaveUp ∧ w.grownBy w' (some g) ∧ ∀ m x c r, Gd m x c (rest s p) r → ¬ c ≤ n)
set_option maxHeartbeats 4000000 in
theorem trF_zero : TrF 0 := by
  intro w g s p htr hp hs
  have hb0 : Hid (Below w.heap.size w (w.alloc (.cells #[.string ⟨#[]⟩, .slice none 0 0] 48))) := (Below.refl _ _).alloc (Nat.le_refl _) _
  have htr0 : Hid (TrAt (w.alloc (.cells #[.string ⟨#[]⟩, .slice none 0 0] 48)) g s p 0) := htr.below hb0.out
  go_enter Try.func56, Try.ntmps56
  go_wp2_with fail
  refine (oneMore_no htr0.out).mono ?_
  rintro e w9 ⟨rfl, hg9⟩
  have hg9' : Hid (w.grownBy w9 (some g)) := (grown_of_below hb0.out _).trans hg9
  clear hg9
  go_wp2_with fail
  exact ⟨rfl, Or.inr ⟨rfl, hg9'.out, fun m x c r q hc => by have := q.pos; omega⟩⟩
set_option maxRecDepth 100000 in
set_option maxHeartbeats 4000000 in
theorem trF_of (n : Nat) (hn : n ≤ 1000) (hS : Hid (∀ j, j ≤ n → TrF j)) : TrF (n + 1) := by
  intro w g s p htr hp hs
  have hgl : g < w.heap.size := htr.lt
  have hss : Hid (s.size ≤ 1048576) := hs
  obtain ⟨iT, hiT0, heT0⟩ := Option.map_eq_some_iff.1 infoTri
  simp only [Prod.mk.injEq] at heT0
  have hiT : Hid (Try.prog.info? 48 = some iT) := hiT0
  have heT : Hid (iT.zero = some (.agg #[.string ByteArray.empty, .slice none 0 0]) ∧ iT.bytes = 40 ∧ iT.size = 2) := heT0
  clear hiT0 heT0
  have hb0 : Hid (Below w.heap.size w (w.alloc (.cells #[.string ⟨#[]⟩, .slice none 0 0] 48))) := (Below.refl _ _).alloc (Nat.le_refl _) _
  have br0 : Hid (Box (w.alloc (.cells #[.string ⟨#[]⟩, .slice none 0 0] 48)) w.heap.size resT 48) := Box.new w _ _
  have htr0 : Hid (TrAt (w.alloc (.cells #[.string ⟨#[]⟩, .slice none 0 0] 48)) g s p (n + 1)) := htr.below hb0.out
  have hg0 : Hid (w.grownBy (w.alloc (.cells #[.string ⟨#[]⟩, .slice none 0 0] 48)) (some g)) := grown_of_below hb0.out _
  clear htr hb0 hs
  go_enter Try.func56, Try.ntmps56
  go_wp2_with fail
  refine (oneMore_yes htr0.out hn).mono ?_
  rintro e w1 ⟨rfl, htr1, hg1⟩
  have hz1 : w.heap.size + 1 ≤ w1.heap.size := by have := hg1.size; simpa using this
  have br1 : Hid (Box w1 w.heap.size resT 48) := box_grown br0.out (by omega) hg1
  have hg1' : Hid (w.grownBy w1 (some g)) := hg0.out.trans hg1
  have htr1' : Hid (TrAt w1 g s p n) := htr1
  clear hg1 htr1 htr0 br0 hg0
  go_wp2_with fail
  cases h60 : preP [60] (rest s p)
  · refine (take_no htr1'.out hp h60).mono ?_
    rintro e w9 ⟨rfl, hg9⟩
    have hg9' : Hid (w.grownBy w9 (some g)) := hg1'.out.trans hg9
    clear hg9
    go_wp2_with fail
    exact ⟨rfl, Or.inr ⟨rfl, hg9'.out, fun m x c r q _ => no_open h60 m x c r q⟩⟩
  refine (take_yes htr1'.out hp hss.out h60).mono ?_
  rintro e w2 ⟨rfl, htr2, hp2, hg2⟩
  have hl1 : Hid (rest s p = 60 :: rest s (p + 1)) := rest_of (sign := ⟨#[60]⟩) h60
  have htr2' : Hid (TrAt w2 g s (p + 1) n) := htr2
  have hp2' : Hid (p + 1 ≤ s.size) := hp2
  have hz2 : w.heap.size + 1 ≤ w2.heap.size := Nat.le_trans hz1 hg2.size
  have br2 : Hid (Box w2 w.heap.size resT 48) := box_grown br1.out (by omega) hg2
  have hg2' : Hid (w.grownBy w2 (some g)) := hg1'.out.trans hg2
  clear h60 hg2 htr2 hp2 htr1' hg1' br1 hz1
  go_wp2_with fail
  refine (name_any htr2'.out hp2'.out hss.out).mono ?_
  intro e w3 hor
  rcases hor with ⟨hnb, ⟨tag, rfl, htag⟩, htr3, hg3⟩ | ⟨hnb, rfl, hg3⟩
  rotate_left
  · have hg9' : Hid (w.grownBy w3 (some g)) := hg2'.out.trans hg3
    have hnb' : Hid (nameB (lw (rest s (p + 1))) = false) := hnb
    clear hg3 hnb
    go_wp2_with fail
    exact ⟨rfl, Or.inr ⟨rfl, hg9'.out, fun m x c r q _ => no_name hl1.out hnb'.out m x c r q⟩⟩
  have hrw : Hid (rest s (p + 1) = tag.data.toList ++ rest s (p + 1 + tag.size)) := by
    have := rest_lw (s := s) (p := p + 1)
    rw [← htag, bd_len] at this; exact this
  have hlw : Hid (lw (rest s (p + 1)) = tag.data.toList) := htag.symm
  have hnm : Hid (nameB tag.data.toList = true) := by rw [htag]; exact hnb
  have htr3' : Hid (TrAt w3 g s (p + 1 + tag.size) n) := by rw [← htag, bd_len] at htr3; exact htr3
  have htz : Hid (tag.size ≤ 6) := by have := (name_len hnm.out).2; rw [bd_len] at this; exact this
  have hp3 : Hid (p + 1 + tag.size ≤ s.size) := by
    show _ ≤ _
    have := congrArg List.length hrw.out
    have h1 : (rest s (p + 1)).length = s.size - (p + 1) := by unfold rest; rw [List.length_drop, bd_len]
    rw [List.length_append, h1, bd_len] at this
    have := hp2'.out
    omega
  have hz3 : w.heap.size + 1 ≤ w3.heap.size := Nat.le_trans hz2 hg3.size
  have br3 : Hid (Box w3 w.heap.size resT 48) := box_grown br2.out (by omega) hg3
  have hg3' : Hid (w.grownBy w3 (some g)) := hg2'.out.trans hg3
  clear hnb htag htr3 hg3 hz2 br2 hg2' htr2'
  have hbA : Hid (Below w3.heap.size w3 (w3.alloc (.cells #[.string tag, .slice none 0 0] 48))) := (Below.refl _ _).alloc (Nat.le_refl _) _
  have hk0 : Hid (KrSt n w g w3.heap.size (w3.heap.size + 1) tag (.slice none 0 0) [] (w3.alloc (.cells #[.string tag, .slice none 0 0] 48))) := ⟨⟨[], [], GrowOwn.nil⟩, Box.new w3 _ _, br3.out.alloc _, hg3'.out.trans (grown_of_below hbA.out _), by simp, hgl, by omega, by omega⟩
  have htr4 : Hid (TrAt (w3.alloc (.cells #[.string tag, .slice none 0 0] 48)) g s (p + 1 + tag.size) n) := htr3'.out.below hbA.out
  clear hbA htr3' br3 hg3'
  go_wp2_with fail
  cases h62 : preP [62] (rest s (p + 1 + tag.size))
  · refine (take_no htr4.out hp3.out h62).mono ?_
    rintro e w9 ⟨rfl, hg9⟩
    have hg9' : Hid (w.grownBy w9 (some g)) := hk0.out.2.2.2.1.trans hg9
    clear hg9
    go_wp2_with fail
    exact ⟨rfl, Or.inr ⟨rfl, hg9'.out, fun m x c r q _ => no_close hl1.out (by rw [hlw.out]; exact hrw.out) h62 m x c r q⟩⟩
  refine (take_yes htr4.out hp3.out hss.out h62).mono ?_
  rintro e w5 ⟨rfl, htr5, hp5, hg5⟩
  have hl2 : rest s (p + 1 + tag.size) = 62 :: rest s (p + 1 + tag.size + 1) := rest_of (sign := ⟨#[62]⟩) h62
  have hl0 : Hid (rest s p = 60 :: (tag.data.toList ++ 62 :: rest s (p + 1 + tag.size + 1))) := by show _ = _; rw [hl1.out, hrw.out, hl2]
  have hk5 : Hid (KrSt n w g w3.heap.size (w3.heap.size + 1) tag (.slice none 0 0) [] w5) := KrSt.grown hk0.out hg5
  have htr5' : Hid (TrAt w5 g s (p + 1 + tag.size + 1) n) := htr5
  have hp5' : Hid (p + 1 + tag.size + 1 ≤ s.size) := hp5
  generalize hTB : w3.heap.size = TB at hk5
  generalize hbase : TB + 1 = base at hk5
  generalize hp0 : p + 1 + tag.size + 1 = p0 at hl0 htr5' hp5'
  clear hp0 hbase hTB hg5 htr5 hp5 hk0 hl2 h62 htr4 hp3 hlw hrw hp2' hl1
  go_wp2_with fail
  go_loopw [] (fun wr => ∃ (q j : Nat) (vk : Value) (xs : List TD), j ≤ n ∧ q ≤ s.size ∧ Hid (KrSt n w g TB base tag vk xs wr) ∧ Hid (TrAt wr g s q j) ∧ Hid (GdK (Gd n) xs (n - j) (rest s p0) (rest s q)) ∧ Hid (xs.length ≤ n - j)) (fun wr => roomW g wr)
  case atStart => exact ⟨p0, n, .slice none 0 0, [], Nat.le_refl _, hp5'.out, hk5, htr5', by show _ ∧ _; exact ⟨by omega, rfl⟩, by show (0 : Nat) ≤ _; omega⟩
  case round =>
    obtain ⟨q, j, vk, xs, hj, hq, hst2, htr2, hgk, hxl⟩ := hrel
    clear hk5 htr5'
    go_wp2_with fail
    refine (sees_any htr2.out hq).mono ?_
    rintro e w1 ⟨rfl, nq, rfl⟩
    have hst3 : Hid (KrSt n w g TB base tag vk xs (wr.drewN nq)) := KrSt.grown hst2.out grown_drewN
    have htr3 : Hid (TrAt (wr.drewN nq) g s q j) := htr2.out
    have hrm : Hid (roomW g wr = j) := roomW_at htr2.out
    cases hpre : preP [60, 47] (rest s q)
    · have hpre' : Hid (preP [60, 47] (rest s q) = false) := hpre
      clear hpre htr2 hst2
      generalize wr.drewN nq = w2 at *
      have hst2 : Hid (KrSt n w g TB base tag vk xs w2) := hst3
      have htr2 : Hid (TrAt w2 g s q j) := htr3
      obtain ⟨⟨bss, css, hgr⟩, bTr0, _, _, hbs, hgw, hwT, hTb⟩ := id hst2.out
      obtain ⟨av, capv, rfl⟩ := hgr.form
      have bTr : Hid (Box w2 TB [.string tag, .slice av xs.length capv] 48) := bTr0
      have hvb := own_ge hgr
      clear bTr0 hst3 htr3
      go_wp2_with fail
      refine wp_region_held_drew (S := fun w' => True) (by kernel_rfl) trivial (fun hHeld => ?_)
      refine tq (i := 0) (d := 16) ?_
      simp only [sz, ss]
      refine tq (i := 2) (d := 18) ?_
      simp only [sz, ss]
      refine wpAnyH_ready (rs := [1, 3]) (by kernel_rfl) (by simp) ?_
      refine (AllReadyH.cons rfl (fun K hK => ?_) (AllReadyH.cons rfl (fun K hK => ?_) AllReadyH.nil))
      · have cT : w2.drew.cell? ⟨TB, 1, none⟩ = some (.slice av xs.length capv) := bTr.out.cell 1 rfl
        go_simp
        clear cT
        refine hK.out _ _ trivial (fun hHeld => ?_)
        clear hK K
        refine wpAnyH_ready (rs := [3]) (by kernel_rfl) (by simp) ?_
        refine AllReadyH.cons rfl (fun K hK => ?_) AllReadyH.nil
        go_simp
        refine (hS.out j (by omega) _ g s q (by exact htr2.out) hq hss.out).mono ?_
        intro e w4 hor
        rcases hor with hyes | ⟨rfl, hg4, hno⟩
        rotate_left
        · have hg4' : Hid (w2.grownBy w4 (some g)) := ⟨hg4.os, hg4.tape, hg4.output, hg4.size, hg4.block⟩
          have hnn : Hid (∀ m x c r, Gd m x c (rest s p) r → ¬ c ≤ n + 1) := fun m x c r q hc => no_kid hl0.out hnm.out hgk.out hpre'.out hno m x c r q (by omega)
          clear hno hg4
          go_simp
          exact ⟨rfl, Or.inr ⟨rfl, hst2.out.2.2.2.1.trans hg4'.out, hnn.out⟩⟩
        obtain ⟨csk, xk, fsk, ck, p4, rfl, hok, hndk, hlok, hr4, hck, hp4, hgd4, hg4⟩ := hyes
        obtain ⟨kt, b3, l3, c3, rfl⟩ : ∃ (kt : ByteArray) (b3 : Option Addr) (l3 c3 : Nat), csk = [.string kt, .slice b3 l3 c3] := by obtain ⟨k, e, h3, _⟩ := hok.opened; obtain ⟨y1, y2, y3⟩ := h3.form; exact ⟨_, y1, _, y2, by rw [e, y3]⟩
        have hok' : Hid (TreeO n w4 _ xk fsk) := TreeO_mono (by omega) hok
        have hndk' : Hid (fsk.Nodup) := hndk
        have hlok' : Hid (∀ b ∈ fsk, w2.heap.size ≤ b) := fun b hb => Nat.le_of_succ_le (hlok b hb)
        clear hok hndk hlok
        have hg4' : Hid (w2.grownBy w4 (some g)) := ⟨hg4.os, hg4.tape, hg4.output, hg4.size, hg4.block⟩
        have hr4' : Hid (TrAt w4 g s p4 (j - ck)) := hr4
        have hcp : 1 ≤ ck := hgd4.pos
        have hgd4' : Hid (Gd n xk ck (rest s q) (rest s p4)) := Gd.deep _ _ _ _ _ _ hgd4 (by omega)
        have bT4 : Hid (Box w4 (TB) [.string tag, .slice av xs.length capv] 48) := box_grown bTr.out (by omega) hg4'.out
        have hz4 := hg4'.out.size
        clear hg4 hr4 hgd4
        refine hK.out _ _ trivial (fun hHeld => ?_)
        clear hK K
        refine wpAnyH_ready (rs := [4]) (by kernel_rfl) (by simp) ?_
        refine AllReadyH.cons rfl (fun K hK => ?_) AllReadyH.nil
        go_simp
        refine hK.out _ _ trivial (fun hHeld => ?_)
        clear hK K
        refine wpAnyH_ready (rs := [5]) (by kernel_rfl) (by simp) ?_
        refine AllReadyH.cons rfl (fun K hK => ?_) AllReadyH.nil
        refine step_append_lies (w4.alloc (.cells #[.string kt, .slice b3 l3 c3] 48)) rfl _ _ 46 rfl _ 48 iT _ 2 40 Try.underlying46 hiT.out heT.out.1 heT.out.2.2 heT.out.2.1 rfl (by decide) (.slice av xs.length capv) xs.length css.flatten rfl ((GrowOwn.stay (TreeO_stays n) hgr (w' := (w4.alloc (.cells #[.string kt, .slice b3 l3 c3] 48))) (by simp; omega) (fun b q1 q2 => by rw [Below.heap_alloc _ _ _ (by omega), hg4'.out.block b q2 (fun e => by injection e with e; omega)])).row) ⟨w4.heap.size, 0, none⟩ 1 1 [.string kt, .slice b3 l3 c3] rfl rfl (by intro i u hu; match i, hu with | 0, hu => (simp at hu; subst hu; simp [Addr.add]) | 1, hu => (simp at hu; subst hu; simp [Addr.add]) | i + 2, hu => simp at hu) (by intro u hu; simp at hu; rcases hu with rfl | rfl <;> rfl) (by omega) (by have := hxl.out; unfold maxLen; omega) (by have := hxl.out; omega) (by simp; omega) _ rfl ?_
        intro g3 capg w5 hown5 hgrow5 hat5 hlt5
        have bT5 : Hid (Box w5 (TB) [.string tag, .slice av xs.length capv] 48) := (hgrow5.block (TB) (by simp; omega) (by intro e; have := hvb _ e.symm; omega)).trans (bT4.out.alloc _)
        go_simp
        refine hK.out _ _ trivial (fun hHeld => ?_)
        clear hK K
        refine tq (i := 6) (d := 22) ?_
        simp only [sz, ss]
        refine wpAnyH_ready (rs := [7]) (by kernel_rfl) (by simp) ?_
        refine AllReadyH.cons rfl (fun K hK => ?_) AllReadyH.nil
        have cT5 := bT5.out.cell 1 rfl
        have fT5 := bT5.out.unfrozen 1
        go_simp
        refine hK.out _ _ trivial (fun hHeld => ?_)
        clear hK K
        refine wpAnyH_done (by kernel_rfl) ?_ _
        obtain ⟨hst4, hgg⟩ := KrSt.step hst2.out hgr hg4'.out hok'.out hndk'.out hlok'.out rfl rfl hown5 hgrow5 hat5
        have hst4' : Hid (KrSt n w g TB base tag _ _ _) := hst4
        have htr5 : Hid (TrAt _ g s p4 (j - ck)) := hgg.trans hr4'.out
        clear hst4 hgg
        go_wp2_with fail
        go_roundw
        case rel => exact ⟨p4, j - ck, _, xs ++ [xk], by omega, hp4, hst4', htr5, by show GdK _ _ _ _ _; have := GdK.snoc hgd4'.out _ _ _ hgk.out; rwa [show n - j + ck = n - (j - ck) by omega] at this, by show _ ≤ _; have := hxl.out; simp; omega⟩
        case measure => rw [hrm.out, roomW_at htr5.out]; omega
      · go_simp
        refine (hS.out j (by omega) _ g s q (by exact htr2.out) hq hss.out).mono ?_
        intro e w4 hor
        rcases hor with hyes | ⟨rfl, hg4, hno⟩
        rotate_left
        · have hg4' : Hid (w2.grownBy w4 (some g)) := ⟨hg4.os, hg4.tape, hg4.output, hg4.size, hg4.block⟩
          have hnn : Hid (∀ m x c r, Gd m x c (rest s p) r → ¬ c ≤ n + 1) := fun m x c r q hc => no_kid hl0.out hnm.out hgk.out hpre'.out hno m x c r q (by omega)
          clear hno hg4
          go_simp
          exact ⟨rfl, Or.inr ⟨rfl, hst2.out.2.2.2.1.trans hg4'.out, hnn.out⟩⟩
        obtain ⟨csk, xk, fsk, ck, p4, rfl, hok, hndk, hlok, hr4, hck, hp4, hgd4, hg4⟩ := hyes
        obtain ⟨kt, b3, l3, c3, rfl⟩ : ∃ (kt : ByteArray) (b3 : Option Addr) (l3 c3 : Nat), csk = [.string kt, .slice b3 l3 c3] := by obtain ⟨k, e, h3, _⟩ := hok.opened; obtain ⟨y1, y2, y3⟩ := h3.form; exact ⟨_, y1, _, y2, by rw [e, y3]⟩
        have hok' : Hid (TreeO n w4 _ xk fsk) := TreeO_mono (by omega) hok
        have hndk' : Hid (fsk.Nodup) := hndk
        have hlok' : Hid (∀ b ∈ fsk, w2.heap.size ≤ b) := fun b hb => Nat.le_of_succ_le (hlok b hb)
        clear hok hndk hlok
        have hg4' : Hid (w2.grownBy w4 (some g)) := ⟨hg4.os, hg4.tape, hg4.output, hg4.size, hg4.block⟩
        have hr4' : Hid (TrAt w4 g s p4 (j - ck)) := hr4
        have hcp : 1 ≤ ck := hgd4.pos
        have hgd4' : Hid (Gd n xk ck (rest s q) (rest s p4)) := Gd.deep _ _ _ _ _ _ hgd4 (by omega)
        have bT4 : Hid (Box w4 (TB) [.string tag, .slice av xs.length capv] 48) := box_grown bTr.out (by omega) hg4'.out
        have hz4 := hg4'.out.size
        clear hg4 hr4 hgd4
        refine hK.out _ _ trivial (fun hHeld => ?_)
        clear hK K
        refine wpAnyH_ready (rs := [1, 4]) (by kernel_rfl) (by simp) ?_
        refine (AllReadyH.cons rfl (fun K hK => ?_) (AllReadyH.cons rfl (fun K hK => ?_) AllReadyH.nil))
        · have cT : w4.cell? ⟨TB, 1, none⟩ = some (.slice av xs.length capv) := bT4.out.cell 1 rfl
          go_simp
          clear cT
          refine hK.out _ _ trivial (fun hHeld => ?_)
          clear hK K
          refine wpAnyH_ready (rs := [4]) (by kernel_rfl) (by simp) ?_
          refine AllReadyH.cons rfl (fun K hK => ?_) AllReadyH.nil
          go_simp
          refine hK.out _ _ trivial (fun hHeld => ?_)
          clear hK K
          refine wpAnyH_ready (rs := [5]) (by kernel_rfl) (by simp) ?_
          refine AllReadyH.cons rfl (fun K hK => ?_) AllReadyH.nil
          refine step_append_lies (w4.alloc (.cells #[.string kt, .slice b3 l3 c3] 48)) rfl _ _ 46 rfl _ 48 iT _ 2 40 Try.underlying46 hiT.out heT.out.1 heT.out.2.2 heT.out.2.1 rfl (by decide) (.slice av xs.length capv) xs.length css.flatten rfl ((GrowOwn.stay (TreeO_stays n) hgr (w' := (w4.alloc (.cells #[.string kt, .slice b3 l3 c3] 48))) (by simp; omega) (fun b q1 q2 => by rw [Below.heap_alloc _ _ _ (by omega), hg4'.out.block b q2 (fun e => by injection e with e; omega)])).row) ⟨w4.heap.size, 0, none⟩ 1 1 [.string kt, .slice b3 l3 c3] rfl rfl (by intro i u hu; match i, hu with | 0, hu => (simp at hu; subst hu; simp [Addr.add]) | 1, hu => (simp at hu; subst hu; simp [Addr.add]) | i + 2, hu => simp at hu) (by intro u hu; simp at hu; rcases hu with rfl | rfl <;> rfl) (by omega) (by have := hxl.out; unfold maxLen; omega) (by have := hxl.out; omega) (by simp; omega) _ rfl ?_
          intro g3 capg w5 hown5 hgrow5 hat5 hlt5
          have bT5 : Hid (Box w5 (TB) [.string tag, .slice av xs.length capv] 48) := (hgrow5.block (TB) (by simp; omega) (by intro e; have := hvb _ e.symm; omega)).trans (bT4.out.alloc _)
          go_simp
          refine hK.out _ _ trivial (fun hHeld => ?_)
          clear hK K
          refine tq (i := 6) (d := 22) ?_
          simp only [sz, ss]
          refine wpAnyH_ready (rs := [7]) (by kernel_rfl) (by simp) ?_
          refine AllReadyH.cons rfl (fun K hK => ?_) AllReadyH.nil
          have cT5 := bT5.out.cell 1 rfl
          have fT5 := bT5.out.unfrozen 1
          go_simp
          refine hK.out _ _ trivial (fun hHeld => ?_)
          clear hK K
          refine wpAnyH_done (by kernel_rfl) ?_ _
          obtain ⟨hst4, hgg⟩ := KrSt.step hst2.out hgr hg4'.out hok'.out hndk'.out hlok'.out rfl rfl hown5 hgrow5 hat5
          have hst4' : Hid (KrSt n w g TB base tag _ _ _) := hst4
          have htr5 : Hid (TrAt _ g s p4 (j - ck)) := hgg.trans hr4'.out
          clear hst4 hgg
          go_wp2_with fail
          go_roundw
          case rel => exact ⟨p4, j - ck, _, xs ++ [xk], by omega, hp4, hst4', htr5, by show GdK _ _ _ _ _; have := GdK.snoc hgd4'.out _ _ _ hgk.out; rwa [show n - j + ck = n - (j - ck) by omega] at this, by show _ ≤ _; have := hxl.out; simp; omega⟩
          case measure => rw [hrm.out, roomW_at htr5.out]; omega
        · go_simp
          refine hK.out _ _ trivial (fun hHeld => ?_)
          clear hK K
          refine wpAnyH_ready (rs := [1]) (by kernel_rfl) (by simp) ?_
          refine AllReadyH.cons rfl (fun K hK => ?_) AllReadyH.nil
          have cT : (w4.alloc (.cells #[.string kt, .slice b3 l3 c3] 48)).cell? ⟨TB, 1, none⟩ = some (.slice av xs.length capv) := (bT4.out.alloc _).cell 1 rfl
          go_simp
          clear cT
          refine hK.out _ _ trivial (fun hHeld => ?_)
          clear hK K
          refine wpAnyH_ready (rs := [5]) (by kernel_rfl) (by simp) ?_
          refine AllReadyH.cons rfl (fun K hK => ?_) AllReadyH.nil
          refine step_append_lies (w4.alloc (.cells #[.string kt, .slice b3 l3 c3] 48)) rfl _ _ 46 rfl _ 48 iT _ 2 40 Try.underlying46 hiT.out heT.out.1 heT.out.2.2 heT.out.2.1 rfl (by decide) (.slice av xs.length capv) xs.length css.flatten rfl ((GrowOwn.stay (TreeO_stays n) hgr (w' := (w4.alloc (.cells #[.string kt, .slice b3 l3 c3] 48))) (by simp; omega) (fun b q1 q2 => by rw [Below.heap_alloc _ _ _ (by omega), hg4'.out.block b q2 (fun e => by injection e with e; omega)])).row) ⟨w4.heap.size, 0, none⟩ 1 1 [.string kt, .slice b3 l3 c3] rfl rfl (by intro i u hu; match i, hu with | 0, hu => (simp at hu; subst hu; simp [Addr.add]) | 1, hu => (simp at hu; subst hu; simp [Addr.add]) | i + 2, hu => simp at hu) (by intro u hu; simp at hu; rcases hu with rfl | rfl <;> rfl) (by omega) (by have := hxl.out; unfold maxLen; omega) (by have := hxl.out; omega) (by simp; omega) _ rfl ?_
          intro g3 capg w5 hown5 hgrow5 hat5 hlt5
          have bT5 : Hid (Box w5 (TB) [.string tag, .slice av xs.length capv] 48) := (hgrow5.block (TB) (by simp; omega) (by intro e; have := hvb _ e.symm; omega)).trans (bT4.out.alloc _)
          go_simp
          refine hK.out _ _ trivial (fun hHeld => ?_)
          clear hK K
          refine tq (i := 6) (d := 22) ?_
          simp only [sz, ss]
          refine wpAnyH_ready (rs := [7]) (by kernel_rfl) (by simp) ?_
          refine AllReadyH.cons rfl (fun K hK => ?_) AllReadyH.nil
          have cT5 := bT5.out.cell 1 rfl
          have fT5 := bT5.out.unfrozen 1
          go_simp
          refine hK.out _ _ trivial (fun hHeld => ?_)
          clear hK K
          refine wpAnyH_done (by kernel_rfl) ?_ _
          obtain ⟨hst4, hgg⟩ := KrSt.step hst2.out hgr hg4'.out hok'.out hndk'.out hlok'.out rfl rfl hown5 hgrow5 hat5
          have hst4' : Hid (KrSt n w g TB base tag _ _ _) := hst4
          have htr5 : Hid (TrAt _ g s p4 (j - ck)) := hgg.trans hr4'.out
          clear hst4 hgg
          go_wp2_with fail
          go_roundw
          case rel => exact ⟨p4, j - ck, _, xs ++ [xk], by omega, hp4, hst4', htr5, by show GdK _ _ _ _ _; have := GdK.snoc hgd4'.out _ _ _ hgk.out; rwa [show n - j + ck = n - (j - ck) by omega] at this, by show _ ≤ _; have := hxl.out; simp; omega⟩
          case measure => rw [hrm.out, roomW_at htr5.out]; omega
    · obtain ⟨⟨bss, css, hgr⟩, bT8, br8, _, hbs, hgw, hwT, hTb⟩ := id hst3.out
      obtain ⟨av, capv, rfl⟩ := hgr.form
      have c0 := bT8.cell 0 rfl
      have hpre' : Hid (preP [60, 47] (rest s q) = true) := hpre
      have hcat1 : ¬ 9223372036854775807 < 2 + tag.size := by have := htz.out; omega
      have hcat2 : ¬ 9223372036854775807 < 2 + tag.size + 1 := by have := htz.out; omega
      clear hpre bT8 br8 hgr
      go_wp2_with fail
      obtain ⟨sg, hsg, hsgl⟩ : ∃ sg : ByteArray, sg = ⟨#[60, 47]⟩ ++ tag ++ ⟨#[62]⟩ ∧ sg.data.toList = [60, 47] ++ tag.data.toList ++ [62] := ⟨_, rfl, by rw [ba_app, ba_app]⟩
      rw [← hsg]
      have hsgl' : Hid (sg.data.toList = [60, 47] ++ tag.data.toList ++ [62]) := hsgl
      clear hsg hsgl hcat1 hcat2
      cases hen : preP ([60, 47] ++ tag.data.toList ++ [62]) (rest s q)
      · refine (take_no htr3.out hq (by rw [hsgl'.out]; exact hen)).mono ?_
        rintro e w9 ⟨rfl, hg9⟩
        have hg9' : Hid (w.grownBy w9 (some g)) := hst3.out.2.2.2.1.trans hg9
        clear hg9
        go_wp2_with fail
        exact ⟨rfl, Or.inr ⟨rfl, hg9'.out, fun m x c r qq _ => no_end hl0.out hnm.out hgk.out hpre'.out hen m x c r qq⟩⟩
      · refine (take_yes htr3.out hq hss.out (by rw [hsgl'.out]; exact hen)).mono ?_
        rintro e w6 ⟨rfl, htr6, hp6, hg6⟩
        have hst6 : Hid (KrSt n w g TB base tag _ xs w6) := KrSt.grown hst3.out hg6
        have htr6' : Hid (TrAt w6 g s (q + sg.size) j) := htr6
        have hp6' : Hid (q + sg.size ≤ s.size) := hp6
        have hfin : Hid (rest s q = [60, 47] ++ tag.data.toList ++ [62] ++ rest s (q + sg.size)) := by
          have := rest_of (s := s) (sign := sg) (p := q) (by rw [hsgl'.out]; exact hen)
          rw [hsgl'.out] at this; exact this
        clear c0 htr6 hp6 hg6 hen
        obtain ⟨_, bT6, br6, _⟩ := id hst6.out
        have r0 := br6.cell 0 rfl
        have r1 := br6.cell 1 rfl
        have fR := br6.unfrozen
        have c0 := bT6.cell 0 rfl
        have c1 := bT6.cell 1 rfl
        have hne : ¬ TB = w.heap.size := by omega
        have htm : Hid (tag.size ≤ maxLen) := by show _ ≤ _; have := htz.out; unfold maxLen; omega
        clear bT6 br6
        go_wp2_with fail
        obtain ⟨fs, q1, q2, q3, q5⟩ := KrSt.done (w' := putCells w6 w.heap.size 0 [.string tag, .slice av xs.length capv]) hst6.out htm.out (fun b h2 => putCells_other _ _ _ _ _ h2) (by rw [putCells_size]; exact Nat.le_refl _) ⟨rfl, rfl, rfl⟩
        exact bodyPost_ret (v := .agg (List.toArray [.string tag, .slice av xs.length capv])) (by simp [results, Try.results56, go_sem, r0, r1]) rfl (Or.inl ⟨_, mkT tag xs, fs, n - j + 1, q + sg.size, rfl, q1, q2, q3, by rw [show n + 1 - (n - j + 1) = j by omega]; exact (putCells_other [.string tag, .slice av xs.length capv] w6 w.heap.size 0 g (Nat.ne_of_lt hgl)).trans htr6'.out, by omega, hp6'.out, gd_made hl0.out hnm.out hgk.out hfin.out, q5⟩)
theorem trF_all : ∀ n, n ≤ 1001 → TrF n := by
  intro n
  induction n using Nat.strongRecOn with
  | ind n ih =>
    intro hn
    cases n with
    | zero => exact trF_zero
    | succ n => exact trF_of n (by omega) (fun j hj => ih j (by omega) (by omega))
end Go.Proofs.Ytbodeijffpepfaa
