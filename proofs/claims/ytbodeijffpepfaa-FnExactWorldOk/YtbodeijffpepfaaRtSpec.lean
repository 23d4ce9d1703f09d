/- A tree is read by the specification's reader. -/
import Derived.Test.YtbodeijffpepfaaRtSt
import Derived.Test.YtbodeijffpepfaaRsSmall
import Derived.Test.YtbodeijffpepfaaGrowApp
import Derived.Test.YtbodeijffpepfaaTakeLit
namespace Go.Proofs.Ytbodeijffpepfaa
open Go.RowKit Go.Deep
theorem infoTs : ((Try.prog.info? 48).map fun i => (i.zero, i.bytes, i.size)) = some (some (.agg #[.string ByteArray.empty, .slice none 0 0]), 40, 2) := by kernel_rfl
theorem box_low {w w' : World} {B g : Nat} {cs : List Value} {T : TypeId} (hb : Below B w w') (hg : g < B) (h : Box w g cs T) : Box w' g cs T := (hb.block g hg).trans h
/-- what is told behind a try to read a tree -/
def SrRes (n : Nat) (s : ByteArray) (p p' : Nat) (x : TD) (b : Bool) : Prop := Canon (n + 1) x ∧ p ≤ p' ∧ p' ≤ s.size ∧ (b = true → p < p') ∧ ∀ y c r, Gd n y c (rest s p) r → b = true ∧ x = y ∧ rest s p' = r
def SrF (n : Nat) : Prop := ∀ (w : World) (g : Nat) (s : ByteArray) (p : Nat) (deep : Int), SrAt w g s p → p ≤ s.size → s.size ≤ 1048576 → deep = 31 - (n : Int) → n ≤ 30 →
  Calls Try.prog 28 #[.pointer (some ⟨g, 0, none⟩), .int .i64 deep] w fun e w' =>
    ∃ (cs : List Value) (x : TD) (fs : List Nat) (b : Bool), e = .returned (.tuple #[.agg cs.toArray, .bool b]) ∧ TreeO (n + 1) w' cs x fs ∧ fs.Nodup ∧ (∀ b ∈ fs, w.heap.size + 1 ≤ b) ∧ (∃ p', SrAt w' g s p' ∧ SrRes n s p p' x b) ∧ w.grownBy w' (some g)
theorem canon_mk {n : Nat} {tag : ByteArray} {xs : List TD} (h : ∀ k ∈ xs, Canon n k) : Canon (n + 1) (mkT tag xs) := ⟨by rw [mkT_kids, mkT_str], by rw [mkT_kids]; exact h⟩
/-- kids so far are the first ones of whatever tree there is -/
def RestK (n : Nat) (xs : List TD) (s : ByteArray) (p0 q : Nat) : Prop := ∀ ks c z, GdK (Gd n) ks c (rest s p0) (60 :: 47 :: z) → ∃ re c2, ks = xs ++ re ∧ GdK (Gd n) re c2 (rest s q) (60 :: 47 :: z)
theorem RestK.more {n : Nat} {xs : List TD} {s : ByteArray} {p0 q q' : Nat} {x : TD} (h : RestK n xs s p0 q) (hp : preP [60, 47] (rest s q) = false) (hk : ∀ y c r, Gd n y c (rest s q) r → x = y ∧ rest s q' = r) : RestK n (xs ++ [x]) s p0 q' := by
  intro ks c z hg
  obtain ⟨re, c2, e1, e2⟩ := h ks c z hg
  cases re with
  | nil => exact (preP_no hp _ e2.2).elim
  | cons k re =>
    obtain ⟨d1, d2, m, f1, f2, f3⟩ := e2
    obtain ⟨rfl, rfl⟩ := hk _ _ _ f2
    exact ⟨re, d2, by rw [e1]; simp, f3⟩
/-- whatever tree there is has this tag, and its kids from p0 on -/
def InK (n : Nat) (tag s : ByteArray) (p p0 : Nat) : Prop := ∀ y c r, Gd (n + 1) y c (rest s p) r → ∃ ks c', y = mkT tag ks ∧ GdK (Gd n) ks c' (rest s p0) (60 :: 47 :: (tag.data.toList ++ 62 :: r))
theorem inK_of {n : Nat} {tag s : ByteArray} {p p0 : Nat} (h1 : rest s p = 60 :: rest s (p + 1)) (ht : tag.data.toList = lw (rest s (p + 1))) (h2 : rest s (p + 1) = tag.data.toList ++ 62 :: rest s p0) : InK n tag s p p0 := by
  intro y c r g
  obtain ⟨s', ks, m, c', e1, e2, e3, e4, e5⟩ := g
  rw [h1] at e4
  simp only [List.cons.injEq, true_and] at e4
  have e := lw_name e2 e4
  rw [← ht] at e
  obtain rfl := ba_of e
  rw [h2] at e4
  have := List.append_cancel_left e4
  simp only [List.cons.injEq, true_and] at this
  exact ⟨ks, c', e1, by rw [this]; exact e5⟩
theorem no_kidS {n : Nat} {tag s : ByteArray} {p p0 q : Nat} {xs : List TD} (hi : InK n tag s p p0) (hr : RestK n xs s p0 q) (hp : preP [60, 47] (rest s q) = false) (hk : ∀ y c r, ¬ Gd n y c (rest s q) r) : ∀ y c r, ¬ Gd (n + 1) y c (rest s p) r := by
  intro y c r g
  obtain ⟨ks, c', _, e2⟩ := hi y c r g
  obtain ⟨re, c2, f1, f2⟩ := hr _ _ _ e2
  cases re with
  | nil => exact preP_no hp _ f2.2
  | cons k re => obtain ⟨d1, d2, m, _, f2, _⟩ := f2; exact hk _ _ _ f2
theorem doneS {n : Nat} {tag s : ByteArray} {p p0 q : Nat} {xs : List TD} (hi : InK n tag s p p0) (hr : RestK n xs s p0 q) (hq : rest s q = 60 :: 47 :: rest s (q + 2)) : ∀ y c r, Gd (n + 1) y c (rest s p) r → mkT tag xs = y ∧ (preP tag.data.toList (rest s (q + 2)) = true ∧ preP [62] (rest s (q + 2 + tag.size)) = true) ∧ rest s (q + 2 + tag.size + 1) = r := by
  intro y c r g
  obtain ⟨ks, c', e1, e2⟩ := hi y c r g
  obtain ⟨re, c2, f1, f2⟩ := hr _ _ _ e2
  rw [hq] at f2
  obtain ⟨rfl, _, z3⟩ := Gd.stop f2
  have h1 := preP_of z3
  have h2 := rest_of h1
  rw [z3] at h2
  have h3 := List.append_cancel_left h2
  have h4 : preP [62] (rest s (q + 2 + tag.size)) = true := preP_of (r := r) h3.symm
  have h5 : rest s (q + 2 + tag.size) = [62] ++ rest s (q + 2 + tag.size + 1) := rest_of (sign := ⟨#[62]⟩) h4
  rw [h5] at h3
  simp only [List.cons_append, List.nil_append, List.cons.injEq, true_and] at h3
  exact ⟨by rw [e1, f1]; simp, ⟨h1, h4⟩, h3.symm⟩
set_option maxRecDepth 100000 in
set_option maxHeartbeats 4000000 in
theorem srF_zero : SrF 0 := by
  intro w g s p deep hx hp hs hdeep _
  have hd : (30 : Int) < deep := by omega
  have hb0 : Hid (Below w.heap.size w ((w.alloc (.cells #[.string ⟨#[]⟩, .slice none 0 0] 48)).alloc (.cells #[.string ⟨#[]⟩, .slice none 0 0] 48))) := ((Below.refl _ _).alloc (Nat.le_refl _) _).alloc (by simp) _
  have bR : Box ((w.alloc (.cells #[.string ⟨#[]⟩, .slice none 0 0] 48)).alloc (.cells #[.string ⟨#[]⟩, .slice none 0 0] 48)) w.heap.size resT 48 := (Box.new w _ _).alloc _
  have z10 := bR.cell 0 rfl
  have z11 := bR.cell 1 rfl
  have hx0 : Hid (SrAt ((w.alloc (.cells #[.string ⟨#[]⟩, .slice none 0 0] 48)).alloc (.cells #[.string ⟨#[]⟩, .slice none 0 0] 48)) g s p) := hx.below hb0.out
  clear hx bR
  go_enter Try.func28, Try.ntmps28
  go_wp2_with fail
  exact bodyPost_ret (v := .tuple #[.agg (List.toArray [.string ⟨#[]⟩, .slice none 0 0]), .bool false]) (by simp [results, Try.results28, go_sem]) rfl ⟨_, mkT ⟨#[]⟩ [], [], false, rfl, ⟨_, [], rfl, ⟨none, 0, rfl, ⟨Nat.zero_le _, Nat.zero_le _⟩, Or.inl ⟨rfl, rfl⟩⟩, Nat.zero_le _, rfl⟩, List.nodup_nil, by simp, ⟨p, hx0.out, canon_mk (by simp), Nat.le_refl _, hp, fun e => (by cases e), fun y c r h => h.elim⟩, grown_of_below hb0.out _⟩
set_option maxRecDepth 100000 in
set_option maxHeartbeats 4000000 in
theorem srF_of (n : Nat) (hS : Hid (SrF n)) : SrF (n + 1) := by
  intro w g s p deep hx hp hs hdeep hn
  have hgl : g < w.heap.size := hx.lt
  have hss : Hid (s.size ≤ 1048576) := hs
  have hd0 : 1 ≤ deep := by omega
  have hd1 : ¬ 30 < deep := by omega
  have hd2 : deep ≤ 30 := by omega
  have hwd : IntKind.i64.wrap (deep + 1) = deep + 1 := by rw [IntKind.wrap_i64]; omega
  have hdeep' : Hid (deep + 1 = 31 - (n : Int)) := by show _ = _; omega
  have hn' : Hid (n ≤ 30) := by show _ ≤ _; omega
  obtain ⟨iT, hiT0, heT0⟩ := Option.map_eq_some_iff.1 infoTs
  simp only [Prod.mk.injEq] at heT0
  have hiT : Hid (Try.prog.info? 48 = some iT) := hiT0
  have heT : Hid (iT.zero = some (.agg #[.string ByteArray.empty, .slice none 0 0]) ∧ iT.bytes = 40 ∧ iT.size = 2) := heT0
  clear hiT0 heT0 hdeep hn hs
  have hb0 : Hid (Below w.heap.size w ((w.alloc (.cells #[.string ⟨#[]⟩, .slice none 0 0] 48)).alloc (.cells #[.string ⟨#[]⟩, .slice none 0 0] 48))) := ((Below.refl _ _).alloc (Nat.le_refl _) _).alloc (by simp) _
  have hk0 : Hid (KrSt (n + 1) w g (w.heap.size + 1) (w.heap.size + 2) ⟨#[]⟩ (.slice none 0 0) [] ((w.alloc (.cells #[.string ⟨#[]⟩, .slice none 0 0] 48)).alloc (.cells #[.string ⟨#[]⟩, .slice none 0 0] 48))) := ⟨⟨[], [], GrowOwn.nil⟩, by have := Box.new (w.alloc (.cells #[.string ⟨#[]⟩, .slice none 0 0] 48)) resT 48; simpa using this, (Box.new w _ _).alloc _, grown_of_below hb0.out _, by simp, hgl, by omega, by omega⟩
  have hx0 : Hid (SrAt ((w.alloc (.cells #[.string ⟨#[]⟩, .slice none 0 0] 48)).alloc (.cells #[.string ⟨#[]⟩, .slice none 0 0] 48)) g s p) := hx.below hb0.out
  clear hx hb0
  go_enter Try.func28, Try.ntmps28
  go_wp2_with fail
  generalize ((w.alloc (.cells #[.string ⟨#[]⟩, .slice none 0 0] 48)).alloc (.cells #[.string ⟨#[]⟩, .slice none 0 0] 48)) = w0 at *
  generalize hTB : w.heap.size + 1 = TB at hk0 ⊢
  generalize hbase : w.heap.size + 2 = base at hk0
  cases h60 : preP [60] (rest s p)
  · refine (is_no hx0.out hp hss.out (by decide) h60).mono ?_
    rintro e w1 ⟨rfl, n1, rfl⟩
    have htm : Hid ((⟨#[]⟩ : ByteArray).size ≤ maxLen) := Nat.zero_le _
    have hk1 : Hid (KrSt (n + 1) w g TB base ⟨#[]⟩ (.slice none 0 0) [] (w0.drewN n1)) := KrSt.grown hk0.out grown_drewN
    have hx1 : Hid (SrAt (w0.drewN n1) g s p) := hx0.out
    clear hk0 hx0
    generalize w0.drewN n1 = w1 at *
    obtain ⟨_, bT6, br6, _, _, _, hwT6, _⟩ := id hk1.out
    have r0 := br6.cell 0 rfl
    have r1 := br6.cell 1 rfl
    have fR := br6.unfrozen
    have c0 := bT6.cell 0 rfl
    have c1 := bT6.cell 1 rfl
    have hne : ¬ TB = w.heap.size := by omega
    clear bT6 br6
    go_wp2_with fail
    obtain ⟨fs, q1, q2, q3, q5⟩ := KrSt.done (w' := putCells w1 w.heap.size 0 [.string ⟨#[]⟩, .slice none 0 0]) hk1.out htm.out (fun b h2 => putCells_other _ _ _ _ _ h2) (by rw [putCells_size]; exact Nat.le_refl _) ⟨rfl, rfl, rfl⟩
    exact bodyPost_ret (v := .tuple #[.agg (List.toArray [.string ⟨#[]⟩, .slice none 0 0]), .bool false]) (by simp [results, Try.results28, go_sem, r0, r1]) rfl ⟨_, mkT ⟨#[]⟩ [], fs, false, rfl, q1, q2, q3, ⟨p, (putCells_other [.string ⟨#[]⟩, .slice none 0 0] w1 w.heap.size 0 g (Nat.ne_of_lt hgl)).trans hx1.out, canon_mk (by simp), Nat.le_refl _, hp, fun e => (by cases e), fun y c r qq => (no_open h60 _ _ _ _ qq).elim⟩, q5⟩
  refine (is_yes hx0.out hp hss.out h60).mono ?_
  rintro e w1 ⟨rfl, hx1, hp1, hg1⟩
  have hl1 : Hid (rest s p = 60 :: rest s (p + 1)) := rest_of (sign := ⟨#[60]⟩) h60
  have hx1' : Hid (SrAt w1 g s (p + 1)) := hx1
  have hp1' : Hid (p + 1 ≤ s.size) := hp1
  have hk1 : Hid (KrSt (n + 1) w g TB base ⟨#[]⟩ (.slice none 0 0) [] w1) := KrSt.grown hk0.out hg1
  clear hx1 hp1 hg1 hk0 hx0 h60
  go_wp2_with fail
  refine (word_any hx1'.out hp1'.out hss.out).mono ?_
  rintro e w2 ⟨⟨tag, rfl, htag⟩, hx2, hg2⟩
  have htag' : Hid (tag.data.toList = lw (rest s (p + 1))) := htag
  have hrw : Hid (rest s (p + 1) = tag.data.toList ++ rest s (p + 1 + tag.size)) := by
    have := rest_lw (s := s) (p := p + 1)
    rw [← htag, bd_len] at this; exact this
  have hp2 : Hid (p + 1 + tag.size ≤ s.size) := by
    show _ ≤ _
    have := congrArg List.length hrw.out
    have h1 : (rest s (p + 1)).length = s.size - (p + 1) := by unfold rest; rw [List.length_drop, bd_len]
    rw [List.length_append, h1, bd_len] at this
    have := hp1'.out
    omega
  have htz : Hid (tag.size ≤ 1048576) := by show _ ≤ _; have := hp2.out; have := hss.out; omega
  have htm : Hid (tag.size ≤ maxLen) := by show _ ≤ _; have := htz.out; unfold maxLen; omega
  have hk2 : Hid (KrSt (n + 1) w g TB base tag (.slice none 0 0) [] (w2.setCell ⟨TB, 0, none⟩ (.string tag))) := KrSt.tagged (KrSt.grown hk1.out hg2) tag
  have hwT : w.heap.size < TB := hk2.out.2.2.2.2.2.2.1
  have hTb : TB < base := hk2.out.2.2.2.2.2.2.2
  have hgT : g ≠ TB := by omega
  have hx2' : Hid (SrAt (w2.setCell ⟨TB, 0, none⟩ (.string tag)) g s (p + 1 + tag.size)) := by rw [← htag, bd_len] at hx2; exact Box.other hx2 hgT _
  have bT2 := (KrSt.grown hk1.out hg2).2.1
  have cT0 := bT2.cell 0 rfl
  have fT0 := bT2.unfrozen 0
  clear htag hx2 hg2 hk1 hx1' bT2
  go_wp2_with fail
  clear cT0 fT0
  generalize w2.setCell ⟨TB, 0, none⟩ (.string tag) = w3 at *
  cases h62 : preP [62] (rest s (p + 1 + tag.size))
  · refine (is_no hx2'.out hp2.out hss.out (by decide) h62).mono ?_
    rintro e w1 ⟨rfl, n1, rfl⟩
    have hk3 : Hid (KrSt (n + 1) w g TB base tag (.slice none 0 0) [] (w3.drewN n1)) := KrSt.grown hk2.out grown_drewN
    have hx3 : Hid (SrAt (w3.drewN n1) g s (p + 1 + tag.size)) := hx2'.out
    clear hk2 hx2'
    generalize w3.drewN n1 = w1 at *
    obtain ⟨_, bT6, br6, _, _, _, hwT6, _⟩ := id hk3.out
    have r0 := br6.cell 0 rfl
    have r1 := br6.cell 1 rfl
    have fR := br6.unfrozen
    have c0 := bT6.cell 0 rfl
    have c1 := bT6.cell 1 rfl
    have hne : ¬ TB = w.heap.size := by omega
    clear bT6 br6
    go_wp2_with fail
    obtain ⟨fs, q1, q2, q3, q5⟩ := KrSt.done (w' := putCells w1 w.heap.size 0 [.string tag, .slice none 0 0]) hk3.out htm.out (fun b h2 => putCells_other _ _ _ _ _ h2) (by rw [putCells_size]; exact Nat.le_refl _) ⟨rfl, rfl, rfl⟩
    exact bodyPost_ret (v := .tuple #[.agg (List.toArray [.string tag, .slice none 0 0]), .bool false]) (by simp [results, Try.results28, go_sem, r0, r1]) rfl ⟨_, mkT tag [], fs, false, rfl, q1, q2, q3, ⟨_, (putCells_other [.string tag, .slice none 0 0] w1 w.heap.size 0 g (Nat.ne_of_lt hgl)).trans hx3.out, canon_mk (by simp), by omega, hp2.out, fun e => (by cases e), fun y c r qq => (no_close hl1.out (by rw [← htag'.out]; exact hrw.out) h62 _ _ _ _ qq).elim⟩, q5⟩
  refine (is_yes hx2'.out hp2.out hss.out h62).mono ?_
  rintro e w4 ⟨rfl, hx4, hp4, hg4⟩
  have hl2 : rest s (p + 1 + tag.size) = 62 :: rest s (p + 1 + tag.size + 1) := rest_of (sign := ⟨#[62]⟩) h62
  have hin : Hid (InK n tag s p (p + 1 + tag.size + 1)) := inK_of hl1.out htag'.out (by rw [hrw.out, hl2])
  have hk4 : Hid (KrSt (n + 1) w g TB base tag (.slice none 0 0) [] w4) := KrSt.grown hk2.out hg4
  have hx4' : Hid (SrAt w4 g s (p + 1 + tag.size + 1)) := hx4
  have hp4' : Hid (p + 1 + tag.size + 1 ≤ s.size) := hp4
  have hpp : Hid (p < p + 1 + tag.size + 1) := by show _ < _; omega
  generalize p + 1 + tag.size + 1 = p0 at hin hx4' hp4' hpp
  clear hl2 hk2 hx2' h62 hp4 hg4 hx4 hrw htag' hl1 hp2 hp1'
  go_wp2_with fail
  go_loopw [] (fun wr => ∃ (q : Nat) (vk : Value) (xs : List TD), p0 ≤ q ∧ q ≤ s.size ∧ Hid (KrSt (n + 1) w g TB base tag vk xs wr) ∧ Hid (SrAt wr g s q) ∧ Hid (RestK n xs s p0 q) ∧ Hid (∀ k ∈ xs, Canon (n + 1) k) ∧ Hid (xs.length ≤ q)) (fun wr => s.size - posW g wr)
  case atStart => exact ⟨p0, .slice none 0 0, [], Nat.le_refl _, hp4'.out, hk4, hx4', fun ks c z h => ⟨ks, c, rfl, h⟩, by show ∀ k ∈ [], _; simp, by show (0 : Nat) ≤ _; omega⟩
  case round =>
    obtain ⟨q, vk, xs, hq0, hq, hst, hx, hre, hcan, hxl⟩ := hrel
    have hpos : Hid (posW g wr = q) := posW_at hx.out
    clear hk4 hx4'
    have hpq : Hid (p < q) := by show _ < _; have := hpp.out; omega
    go_wp2_with fail
    cases hpre : preP [60, 47] (rest s q)
    · have hpre' : Hid (preP [60, 47] (rest s q) = false) := hpre
      refine (is_no hx.out hq hss.out (by decide) hpre).mono ?_
      rintro e w1 ⟨rfl, n1, rfl⟩
      have hst1 : Hid (KrSt (n + 1) w g TB base tag vk xs (wr.drewN n1)) := KrSt.grown hst.out grown_drewN
      have hx1 : Hid (SrAt (wr.drewN n1) g s q) := hx.out
      clear hst hx hpre
      generalize wr.drewN n1 = w1 at *
      go_wp2_with fail
      refine (hS.out w1 g s q (deep + 1) hx1.out hq hss.out hdeep'.out hn'.out).mono ?_
      rintro e w5 ⟨csk, xk, fsk, bk, rfl, hok, hndk, hlok, ⟨q5, hx5, hcn, hq5, hqs, hlt5, hall5⟩, hg5⟩
      obtain ⟨kt, b3, l3, c3, rfl⟩ : ∃ (kt : ByteArray) (b3 : Option Addr) (l3 c3 : Nat), csk = [.string kt, .slice b3 l3 c3] := by obtain ⟨k, e, h3, _⟩ := hok.opened; obtain ⟨y1, y2, y3⟩ := h3.form; exact ⟨_, y1, _, y2, by rw [e, y3]⟩
      have hok' : Hid (TreeO (n + 1) w5 [.string kt, .slice b3 l3 c3] xk fsk) := hok
      have hndk' : Hid fsk.Nodup := hndk
      have hlok' : Hid (∀ b ∈ fsk, w1.heap.size + 1 ≤ b) := hlok
      have hall5' : Hid (∀ y c r, Gd n y c (rest s q) r → bk = true ∧ xk = y ∧ rest s q5 = r) := hall5
      have hst5 : Hid (KrSt (n + 1) w g TB base tag vk xs w5) := KrSt.grown hst1.out hg5
      have hx5' : Hid (SrAt w5 g s q5) := hx5
      have hz5 := hg5.size
      have hg5' : Hid (w1.grownBy w5 (some g)) := hg5
      clear hok hndk hlok hall5 hx5 hg5
      have hst6 : Hid (KrSt (n + 1) w g TB base tag vk xs (w5.alloc (.cells #[.string kt, .slice b3 l3 c3] 48))) := KrSt.alloc hst5.out _
      have hb6 : Hid (Below w5.heap.size w5 (w5.alloc (.cells #[.string kt, .slice b3 l3 c3] 48))) := (Below.refl _ _).alloc (Nat.le_refl _) _
      have hx6 : Hid (SrAt (w5.alloc (.cells #[.string kt, .slice b3 l3 c3] 48)) g s q5) := hx5'.out.below hb6.out
      cases bk
      · obtain ⟨av, capv, rfl⟩ : ∃ av capv, vk = .slice av xs.length capv := by obtain ⟨⟨bss, css, hgr⟩, _⟩ := id hst6.out; exact hgr.form
        have hno : Hid (∀ y c r, ¬ Gd (n + 1) y c (rest s p) r) := no_kidS hin.out hre.out hpre'.out (fun y c r h => by have := (hall5'.out y c r h).1; cases this)
        obtain ⟨_, bT6, br6, _, _, _, hwT6, _⟩ := id hst6.out
        have r0 := br6.cell 0 rfl
        have r1 := br6.cell 1 rfl
        have fR := br6.unfrozen
        have c0 := bT6.cell 0 rfl
        have c1 := bT6.cell 1 rfl
        have hne : ¬ TB = w.heap.size := by omega
        clear bT6 br6
        go_wp2_with fail
        obtain ⟨fs, q1, q2, q3, q5⟩ := KrSt.done (w' := putCells (w5.alloc (.cells #[.string kt, .slice b3 l3 c3] 48)) w.heap.size 0 [.string tag, .slice av xs.length capv]) hst6.out htm.out (fun b h2 => putCells_other _ _ _ _ _ h2) (by rw [putCells_size]; exact Nat.le_refl _) ⟨rfl, rfl, rfl⟩
        exact bodyPost_ret (v := .tuple #[.agg (List.toArray [.string tag, .slice av xs.length capv]), .bool false]) (by simp [results, Try.results28, go_sem, r0, r1]) rfl ⟨_, mkT tag xs, fs, false, rfl, q1, q2, q3, ⟨_, (putCells_other [.string tag, .slice av xs.length capv] (w5.alloc (.cells #[.string kt, .slice b3 l3 c3] 48)) w.heap.size 0 g (Nat.ne_of_lt hgl)).trans hx6.out, canon_mk hcan.out, by have := hpq.out; omega, hqs, fun e => (by cases e), fun y c r qq => (hno.out y c r qq).elim⟩, q5⟩
      · have hlt : q < q5 := hlt5 rfl
        have hre6 : Hid (RestK n (xs ++ [xk]) s p0 q5) := RestK.more hre.out hpre'.out (fun y c r h => (hall5'.out y c r h).2)
        obtain ⟨⟨bss, css, hgr1⟩, _, _, _, hbs6, _, _, _⟩ := id hst1.out
        obtain ⟨av, capv, rfl⟩ := hgr1.form
        have hgr6 : Hid (GrowOwn 48 2 (TreeO (n + 1)) base w1 (.slice av xs.length capv) xs bss css) := hgr1
        have cT1 := hst6.out.2.1.cell 1 rfl
        have hs7 : Hid (w1.heap.size ≤ ((w5.alloc (.cells #[.string kt, .slice b3 l3 c3] 48)).alloc (.cells #[.string kt, .slice b3 l3 c3] 48)).heap.size) := by show _ ≤ _; simp; omega
        have hb7 : Hid (Below (w5.alloc (.cells #[.string kt, .slice b3 l3 c3] 48)).heap.size (w5.alloc (.cells #[.string kt, .slice b3 l3 c3] 48)) ((w5.alloc (.cells #[.string kt, .slice b3 l3 c3] 48)).alloc (.cells #[.string kt, .slice b3 l3 c3] 48))) := (Below.refl _ _).alloc (Nat.le_refl _) _
        have hk7 : Hid (∀ b, base ≤ b → b < w1.heap.size → ((w5.alloc (.cells #[.string kt, .slice b3 l3 c3] 48)).alloc (.cells #[.string kt, .slice b3 l3 c3] 48)).heap[b]? = w1.heap[b]?) := fun b h1 h2 => by
          rw [Below.heap_alloc _ _ _ (by simp; omega), Below.heap_alloc _ _ _ (by omega), hg5'.out.block b h2 (fun e => by injection e; omega)]
        have hok7 : Hid (TreeO (n + 1) ((w5.alloc (.cells #[.string kt, .slice b3 l3 c3] 48)).alloc (.cells #[.string kt, .slice b3 l3 c3] 48)) [.string kt, .slice b3 l3 c3] xk fsk) := TreeO_stays _ _ _ _ _ _ (fun b hb => by have := TreeO_lt _ _ _ _ _ hok'.out b hb; rw [Below.heap_alloc _ _ _ (by simp; omega), Below.heap_alloc _ _ _ this]) hok'.out
        have hhi7 : Hid (∀ b ∈ fsk, b < ((w5.alloc (.cells #[.string kt, .slice b3 l3 c3] 48)).alloc (.cells #[.string kt, .slice b3 l3 c3] 48)).heap.size) := fun b hb => by have := TreeO_lt _ _ _ _ _ hok'.out b hb; simp; omega
        have hlok6 : Hid (∀ b ∈ fsk, w1.heap.size ≤ b) := fun b hb => by have := hlok'.out b hb; omega
        go_wp2_with (at_builtin; refine wpList_append_growK (TreeO_stays (n + 1)) rfl _ _ 46 rfl base iT _ 40 Try.underlying46 hiT.out heT.out.1 heT.out.2.2 heT.out.2.1 rfl (by decide) (y := xk) (fs := fsk) (cs := [.string kt, .slice b3 l3 c3]) (v := .slice av xs.length capv) rfl hgr6.out hs7.out hk7.out hbs6 _ _ rfl rfl (by intro i u hu; match i, hu with | 0, hu => (simp at hu; subst hu; simp [Addr.add]) | 1, hu => (simp at hu; subst hu; simp [Addr.add]) | i + 2, hu => simp at hu) (by intro u hu; simp at hu; rcases hu with rfl | rfl <;> rfl) hok7.out hndk'.out hlok6.out hhi7.out (by have := hxl.out; have := hss.out; unfold maxLen; omega) (by have := hxl.out; have := hss.out; omega) ?_; intro g3 capg w8 hgr8 hg8 hb8; have hgr8' : Hid (GrowOwn 48 2 (TreeO (n + 1)) base w8 (.slice (some ⟨g3, 0, none⟩) (xs.length + 1) capg) (xs ++ [xk]) _ _) := hgr8; have hg8' : Hid (World.grownBy _ w8 (Value.ownBlock (.slice av xs.length capv))) := hg8; have bT8 : Hid (Box w8 TB [.string tag, .slice av xs.length capv] 48) := box_low hb8 (by omega) (hst6.out.2.1.alloc _); have cT8 := bT8.out.cell 1 rfl; have fT8 := bT8.out.unfrozen 1; clear hgr8 hg8 hb8)
        obtain ⟨hst9, hgg9⟩ := KrSt.step2 hst6.out hb7.out hgr8'.out hg8'.out
        have hst9' : Hid (KrSt (n + 1) w g TB base tag _ _ _) := hst9
        have hx9 : Hid (SrAt (w8.setCell ⟨TB, 1, none⟩ (.slice (some ⟨g3, 0, none⟩) (xs.length + 1) capg)) g s q5) := hgg9.trans hx6.out
        clear hst9 hgg9
        go_roundw
        case rel => exact ⟨q5, _, xs ++ [xk], by omega, hqs, hst9', hx9, hre6, by show ∀ k ∈ xs ++ [xk], _; intro k hk; rcases List.mem_append.1 hk with h | h; exact hcan.out k h; (simp at h; rw [h]; exact hcn), by show _ ≤ _; have := hxl.out; simp; omega⟩
        case measure => rw [hpos.out, posW_at hx9.out]; omega
    · have hqe : Hid (rest s q = 60 :: 47 :: rest s (q + 2)) := rest_of (sign := ⟨#[60, 47]⟩) hpre
      refine (is_yes hx.out hq hss.out hpre).mono ?_
      rintro e wz ⟨rfl, hxz0, hpz0, hgz⟩
      have hxz1 : Hid (SrAt wz g s (q + 2)) := hxz0
      have hqz : Hid (q + 2 ≤ s.size) := hpz0
      have hst1 : Hid (KrSt (n + 1) w g TB base tag vk xs wz) := KrSt.grown hst.out hgz
      have hdone : Hid (∀ y c r, Gd (n + 1) y c (rest s p) r → mkT tag xs = y ∧ (preP tag.data.toList (rest s (q + 2)) = true ∧ preP [62] (rest s (q + 2 + tag.size)) = true) ∧ rest s (q + 2 + tag.size + 1) = r) := doneS hin.out hre.out hqe.out
      obtain ⟨av, capv, rfl⟩ : ∃ av capv, vk = .slice av xs.length capv := by obtain ⟨⟨bss, css, hgr⟩, _⟩ := id hst1.out; exact hgr.form
      have cz0 := hst1.out.2.1.cell 0 rfl
      have cz1 := hst1.out.2.1.cell 1 rfl
      have htmz : Hid (tag.size ≤ 1048576) := htz
      clear hxz0 hpz0 hgz hst hx hpre
      have hxz : Hid (SrAt wz.drew g s (q + 2)) := hxz1.out
      have hstz : Hid (KrSt (n + 1) w g TB base tag (.slice av xs.length capv) xs wz.drew) := KrSt.grown hst1.out ⟨rfl, rfl, rfl, Nat.le_refl _, fun _ _ _ => rfl⟩
      clear hxz1 hst1
      go_wp2_with fail
      cases hi1 : preP tag.data.toList (rest s (q + 2))
      · skip
        refine wp_region_held_drew (S := fun w' => w'.cell? ⟨TB, 0, none⟩ = some (.string tag) ∧ w'.cell? ⟨TB, 1, none⟩ = some (.slice av xs.length capv)) (by kernel_rfl) ⟨cz0, cz1⟩ (fun hHeld => ?_)
        refine tq (i := 0) (d := 44) ?_
        simp only [sz, ss]
        refine tq (i := 1) (d := 45) ?_
        simp only [sz, ss]
        refine tq (i := 2) (d := 46) ?_
        simp only [sz, ss]
        refine tq (i := 3) (d := 47) ?_
        simp only [sz, ss]
        refine wpAnyH_ready (rs := [4]) (by kernel_rfl) (by simp) ?_
        refine AllReadyH.cons rfl (fun K hK => ?_) AllReadyH.nil
        go_simp
        refine (is_no hxz.out hqz.out hss.out htmz.out hi1).mono ?_
        rintro e wa ⟨rfl, na, rfl⟩
        have hxb : Hid (SrAt (wz.drew.drewN na) g s (q + 2)) := hxz.out
        have hstb : Hid (KrSt (n + 1) w g TB base tag _ xs (wz.drew.drewN na)) := KrSt.grown hstz.out ⟨rfl, rfl, rfl, Nat.le_refl _, fun _ _ _ => rfl⟩
        clear hxz hstz
        generalize wz.drew.drewN na = wa at *
        refine hK.out _ _ ⟨hstb.out.2.1.cell 0 rfl, hstb.out.2.1.cell 1 rfl⟩ (fun hHeld => ?_)
        clear hK K
        refine tq (i := 5) (d := 49) ?_
        simp only [sz, ss]
        refine tn (i := 6) (d := 50) ?_
        simp only [sz, ss]
        refine tn (i := 7) (d := 51) ?_
        simp only [sz, ss]
        refine tq (i := 8) (d := 52) ?_
        simp only [sz, ss]
        refine wpAnyH_ready (rs := [9]) (by kernel_rfl) (by simp) ?_
        refine AllReadyH.cons rfl (fun K hK => ?_) AllReadyH.nil
        obtain ⟨_, _, brb, _, _, _, hwTb, _⟩ := id hstb.out
        have r0 := brb.cell 0 rfl
        have r1 := brb.cell 1 rfl
        have fR := brb.unfrozen
        have hneb : ¬ TB = w.heap.size := by omega
        clear brb
        go_simp
        refine hK.out _ _ ⟨(World.cell?_of_block (w := wa) (putCells_other [.string tag, .slice av xs.length capv] wa w.heap.size 0 TB hneb)).trans (hstb.out.2.1.cell 0 rfl), (World.cell?_of_block (w := wa) (putCells_other [.string tag, .slice av xs.length capv] wa w.heap.size 0 TB hneb)).trans (hstb.out.2.1.cell 1 rfl)⟩ (fun hHeld => ?_)
        clear hK K
        refine tq (i := 10) (d := 5) ?_
        simp only [sz, ss]
        refine wpAnyH_done (by kernel_rfl) ?_ _
        go_wp2_with fail
        obtain ⟨fs, q1, q2, q3, q5⟩ := KrSt.done (w' := putCells wa w.heap.size 0 [.string tag, .slice av xs.length capv]) hstb.out htm.out (fun b h2 => putCells_other _ _ _ _ _ h2) (by rw [putCells_size]; exact Nat.le_refl _) ⟨rfl, rfl, rfl⟩
        have z1 := Box.set (i := 1) (Box.set (i := 0) hstb.out.2.2.1 (.string tag)) (.slice av xs.length capv)
        have z10 := z1.cell 0 rfl
        have z11 := z1.cell 1 rfl
        exact bodyPost_ret (v := .tuple #[.agg (List.toArray [.string tag, .slice av xs.length capv]), .bool false]) (by simp [results, Try.results28, go_sem, z10, z11]) rfl ⟨_, mkT tag xs, fs, false, rfl, q1, q2, q3, ⟨_, (putCells_other [.string tag, .slice av xs.length capv] wa w.heap.size 0 g (Nat.ne_of_lt hgl)).trans hxb.out, canon_mk hcan.out, by have := hpq.out; omega, hqz.out, fun e => (by cases e), fun y c r qq => (by rw [(hdone.out y c r qq).2.1.1] at hi1; cases hi1)⟩, q5⟩
      · cases hi2 : preP [62] (rest s (q + 2 + tag.size))
        · skip
          refine wp_region_held_drew (S := fun w' => w'.cell? ⟨TB, 0, none⟩ = some (.string tag) ∧ w'.cell? ⟨TB, 1, none⟩ = some (.slice av xs.length capv)) (by kernel_rfl) ⟨cz0, cz1⟩ (fun hHeld => ?_)
          refine tq (i := 0) (d := 44) ?_
          simp only [sz, ss]
          refine tq (i := 1) (d := 45) ?_
          simp only [sz, ss]
          refine tq (i := 2) (d := 46) ?_
          simp only [sz, ss]
          refine tq (i := 3) (d := 47) ?_
          simp only [sz, ss]
          refine wpAnyH_ready (rs := [4]) (by kernel_rfl) (by simp) ?_
          refine AllReadyH.cons rfl (fun K hK => ?_) AllReadyH.nil
          go_simp
          refine (is_yes hxz.out hqz.out hss.out hi1).mono ?_
          rintro e wa ⟨rfl, hxa0, hpa, hga⟩
          have hxa : Hid (SrAt wa g s (q + 2 + tag.size)) := hxa0
          have hpa' : Hid (q + 2 + tag.size ≤ s.size) := hpa
          have hsta : Hid (KrSt (n + 1) w g TB base tag _ xs wa) := KrSt.grown hstz.out ⟨hga.os, hga.tape, hga.output, hga.size, hga.block⟩
          clear hxa0 hpa hga
          refine hK.out _ _ ⟨hsta.out.2.1.cell 0 rfl, hsta.out.2.1.cell 1 rfl⟩ (fun hHeld => ?_)
          clear hK K
          refine tq (i := 5) (d := 49) ?_
          simp only [sz, ss]
          refine tq (i := 6) (d := 50) ?_
          simp only [sz, ss]
          refine wpAnyH_ready (rs := [7]) (by kernel_rfl) (by simp) ?_
          refine AllReadyH.cons rfl (fun K hK => ?_) AllReadyH.nil
          go_simp
          refine (is_no hxa.out hpa'.out hss.out (by decide) hi2).mono ?_
          rintro e wb ⟨rfl, nb, rfl⟩
          have hxb : Hid (SrAt (wa.drewN nb) g s (q + 2 + tag.size)) := hxa.out
          have hstb : Hid (KrSt (n + 1) w g TB base tag _ xs (wa.drewN nb)) := KrSt.grown hsta.out grown_drewN
          refine hK.out _ _ ⟨hstb.out.2.1.cell 0 rfl, hstb.out.2.1.cell 1 rfl⟩ (fun hHeld => ?_)
          clear hK K
          refine tq (i := 8) (d := 52) ?_
          simp only [sz, ss]
          refine wpAnyH_ready (rs := [9]) (by kernel_rfl) (by simp) ?_
          refine AllReadyH.cons rfl (fun K hK => ?_) AllReadyH.nil
          obtain ⟨_, _, brb, _, _, _, hwTb, _⟩ := id hstb.out
          have r0 := brb.cell 0 rfl
          have r1 := brb.cell 1 rfl
          have fR := brb.unfrozen
          have hneb : ¬ TB = w.heap.size := by omega
          clear brb
          go_simp
          refine hK.out _ _ ⟨(World.cell?_of_block (w := (wa.drewN nb)) (putCells_other [.string tag, .slice av xs.length capv] (wa.drewN nb) w.heap.size 0 TB hneb)).trans (hstb.out.2.1.cell 0 rfl), (World.cell?_of_block (w := (wa.drewN nb)) (putCells_other [.string tag, .slice av xs.length capv] (wa.drewN nb) w.heap.size 0 TB hneb)).trans (hstb.out.2.1.cell 1 rfl)⟩ (fun hHeld => ?_)
          clear hK K
          refine tq (i := 10) (d := 5) ?_
          simp only [sz, ss]
          refine wpAnyH_done (by kernel_rfl) ?_ _
          go_wp2_with fail
          obtain ⟨fs, q1, q2, q3, q5⟩ := KrSt.done (w' := putCells (wa.drewN nb) w.heap.size 0 [.string tag, .slice av xs.length capv]) hstb.out htm.out (fun b h2 => putCells_other _ _ _ _ _ h2) (by rw [putCells_size]; exact Nat.le_refl _) ⟨rfl, rfl, rfl⟩
          have z1 := Box.set (i := 1) (Box.set (i := 0) hstb.out.2.2.1 (.string tag)) (.slice av xs.length capv)
          have z10 := z1.cell 0 rfl
          have z11 := z1.cell 1 rfl
          exact bodyPost_ret (v := .tuple #[.agg (List.toArray [.string tag, .slice av xs.length capv]), .bool false]) (by simp [results, Try.results28, go_sem, z10, z11]) rfl ⟨_, mkT tag xs, fs, false, rfl, q1, q2, q3, ⟨_, (putCells_other [.string tag, .slice av xs.length capv] (wa.drewN nb) w.heap.size 0 g (Nat.ne_of_lt hgl)).trans hxb.out, canon_mk hcan.out, by have := hpq.out; omega, hpa'.out, fun e => (by cases e), fun y c r qq => (by rw [(hdone.out y c r qq).2.1.2] at hi2; cases hi2)⟩, q5⟩
        · skip
          refine wp_region_held_drew (S := fun w' => w'.cell? ⟨TB, 0, none⟩ = some (.string tag) ∧ w'.cell? ⟨TB, 1, none⟩ = some (.slice av xs.length capv)) (by kernel_rfl) ⟨cz0, cz1⟩ (fun hHeld => ?_)
          refine tq (i := 0) (d := 44) ?_
          simp only [sz, ss]
          refine tq (i := 1) (d := 45) ?_
          simp only [sz, ss]
          refine tq (i := 2) (d := 46) ?_
          simp only [sz, ss]
          refine tq (i := 3) (d := 47) ?_
          simp only [sz, ss]
          refine wpAnyH_ready (rs := [4]) (by kernel_rfl) (by simp) ?_
          refine AllReadyH.cons rfl (fun K hK => ?_) AllReadyH.nil
          go_simp
          refine (is_yes hxz.out hqz.out hss.out hi1).mono ?_
          rintro e wa ⟨rfl, hxa0, hpa, hga⟩
          have hxa : Hid (SrAt wa g s (q + 2 + tag.size)) := hxa0
          have hpa' : Hid (q + 2 + tag.size ≤ s.size) := hpa
          have hsta : Hid (KrSt (n + 1) w g TB base tag _ xs wa) := KrSt.grown hstz.out ⟨hga.os, hga.tape, hga.output, hga.size, hga.block⟩
          clear hxa0 hpa hga
          refine hK.out _ _ ⟨hsta.out.2.1.cell 0 rfl, hsta.out.2.1.cell 1 rfl⟩ (fun hHeld => ?_)
          clear hK K
          refine tq (i := 5) (d := 49) ?_
          simp only [sz, ss]
          refine tq (i := 6) (d := 50) ?_
          simp only [sz, ss]
          refine wpAnyH_ready (rs := [7]) (by kernel_rfl) (by simp) ?_
          refine AllReadyH.cons rfl (fun K hK => ?_) AllReadyH.nil
          go_simp
          refine (is_yes hxa.out hpa'.out hss.out hi2).mono ?_
          rintro e wb ⟨rfl, hxb0, hpb, hgb⟩
          have hxb : Hid (SrAt wb g s (q + 2 + tag.size + 1)) := hxb0
          have hpb' : Hid (q + 2 + tag.size + 1 ≤ s.size) := hpb
          have hstb : Hid (KrSt (n + 1) w g TB base tag _ xs wb) := KrSt.grown hsta.out hgb
          clear hxb0 hpb hgb
          refine hK.out _ _ ⟨hstb.out.2.1.cell 0 rfl, hstb.out.2.1.cell 1 rfl⟩ (fun hHeld => ?_)
          clear hK K
          refine tq (i := 8) (d := 52) ?_
          simp only [sz, ss]
          refine wpAnyH_ready (rs := [9]) (by kernel_rfl) (by simp) ?_
          refine AllReadyH.cons rfl (fun K hK => ?_) AllReadyH.nil
          obtain ⟨_, _, brb, _, _, _, hwTb, _⟩ := id hstb.out
          have r0 := brb.cell 0 rfl
          have r1 := brb.cell 1 rfl
          have fR := brb.unfrozen
          have hneb : ¬ TB = w.heap.size := by omega
          clear brb
          go_simp
          refine hK.out _ _ ⟨(World.cell?_of_block (w := wb) (putCells_other [.string tag, .slice av xs.length capv] wb w.heap.size 0 TB hneb)).trans (hstb.out.2.1.cell 0 rfl), (World.cell?_of_block (w := wb) (putCells_other [.string tag, .slice av xs.length capv] wb w.heap.size 0 TB hneb)).trans (hstb.out.2.1.cell 1 rfl)⟩ (fun hHeld => ?_)
          clear hK K
          refine tq (i := 10) (d := 5) ?_
          simp only [sz, ss]
          refine wpAnyH_done (by kernel_rfl) ?_ _
          go_wp2_with fail
          obtain ⟨fs, q1, q2, q3, q5⟩ := KrSt.done (w' := putCells wb w.heap.size 0 [.string tag, .slice av xs.length capv]) hstb.out htm.out (fun b h2 => putCells_other _ _ _ _ _ h2) (by rw [putCells_size]; exact Nat.le_refl _) ⟨rfl, rfl, rfl⟩
          have z1 := Box.set (i := 1) (Box.set (i := 0) hstb.out.2.2.1 (.string tag)) (.slice av xs.length capv)
          have z10 := z1.cell 0 rfl
          have z11 := z1.cell 1 rfl
          exact bodyPost_ret (v := .tuple #[.agg (List.toArray [.string tag, .slice av xs.length capv]), .bool true]) (by simp [results, Try.results28, go_sem, z10, z11]) rfl ⟨_, mkT tag xs, fs, true, rfl, q1, q2, q3, ⟨_, (putCells_other [.string tag, .slice av xs.length capv] wb w.heap.size 0 g (Nat.ne_of_lt hgl)).trans hxb.out, canon_mk hcan.out, by have := hpq.out; omega, hpb'.out, fun _ => by have := hpq.out; omega, fun y c r qq => ⟨rfl, (hdone.out y c r qq).1, (hdone.out y c r qq).2.2⟩⟩, q5⟩
theorem srF_all : ∀ n, SrF n := by
  intro n
  induction n with
  | zero => exact srF_zero
  | succ n ih => exact srF_of n ih
end Go.Proofs.Ytbodeijffpepfaa
