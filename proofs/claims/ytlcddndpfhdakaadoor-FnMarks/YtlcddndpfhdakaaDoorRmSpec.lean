/- A mark is read by the specification's reader. -/
import Derived.Test.YtlcddndpfhdakaaDoorRmSs
namespace Go.Proofs.YtlcddndpfhdakaaDoor
open Go.RowKit Go.Deep
theorem infoMk : ((Tryd.prog.info? 27).map fun i => (i.zero, i.bytes, i.size)) = some (some (.agg #[.string ByteArray.empty, .string ByteArray.empty, .slice none 0 0, .slice none 0 0]), 80, 4) := by kernel_rfl
theorem KaSt.tagged {w : World} {g T base : Nat} {tag : ByteArray} {va : Value} {xs : List AttrD} {wr : World} (h : KaSt w g T base tag va xs wr) (t : ByteArray) : KaSt w g T base t va xs (wr.setCell ⟨T, 0, none⟩ (.string t)) := by
  obtain ⟨⟨bss, css, h1⟩, h2, h4, h6, h7, h8, h9, h10⟩ := h
  refine ⟨⟨bss, css, GrowOwn.set AttrOwn_stays h1 h10⟩, Box.set (i := 0) h2 _, Box.other h4 (by omega) _, ?_, by rw [set_size]; exact h7, h8, h9, h10⟩
  have s6 := h6.size
  exact ⟨h6.os, h6.tape, h6.output, by rw [set_size]; exact h6.size, fun b hb hne => (set_other (by omega) _).trans (h6.block b hb hne)⟩
theorem pre60_at {s : ByteArray} {p : Nat} (h : p < s.size) : (preP [60] (rest s p) = true ↔ s[p] = 60) := by
  have e : rest s p = s[p] :: s.data.toList.drop (p + 1) := by unfold rest; rw [List.drop_eq_getElem_cons (by rw [bd_len]; exact h)]; rfl
  rw [e]
  show ([s[p]] == [60]) = true ↔ _
  simp
def SmF (n : Nat) : Prop := ∀ (w : World) (g : Nat) (s : ByteArray) (p : Nat) (deep : Int), SrAt w g s p → p ≤ s.size → s.size ≤ 1048576 → deep = 31 - (n : Int) → n ≤ 30 →
  Calls Tryd.prog 36 #[.pointer (some ⟨g, 0, none⟩), .int .i64 deep] w fun e w' =>
    ∃ (cs : List Value) (x : MarkD) (fs : List Nat) (b : Bool), e = .returned (.tuple #[.agg cs.toArray, .bool b]) ∧ MarkOwn (n + 1) w' cs x fs ∧ fs.Nodup ∧ (∀ b ∈ fs, w.heap.size + 1 ≤ b) ∧ (∃ p', SrAt w' g s p' ∧ SmRes n s p p' x b) ∧ w.grownBy w' (some g)
set_option maxRecDepth 100000 in
set_option maxHeartbeats 4000000 in
theorem smF_zero : SmF 0 := by
  intro w g s p deep hx hp hs hdeep _
  have hd : (30 : Int) < deep := by omega
  have hb0 : Hid (Below w.heap.size w ((w.alloc (.cells #[.string ⟨#[]⟩, .string ⟨#[]⟩, .slice none 0 0, .slice none 0 0] 27)).alloc (.cells #[.string ⟨#[]⟩, .string ⟨#[]⟩, .slice none 0 0, .slice none 0 0] 27))) := ((Below.refl _ _).alloc (Nat.le_refl _) _).alloc (by simp) _
  have hx0 : Hid (SrAt ((w.alloc (.cells #[.string ⟨#[]⟩, .string ⟨#[]⟩, .slice none 0 0, .slice none 0 0] 27)).alloc (.cells #[.string ⟨#[]⟩, .string ⟨#[]⟩, .slice none 0 0, .slice none 0 0] 27)) g s p) := hx.below hb0.out
  clear hx
  go_enter Tryd.func36, Tryd.ntmps36
  go_wp2_with fail
  exact bodyPost_ret (v := .tuple #[.agg (List.toArray zM4), .bool false]) (by simp [results, Tryd.results36, go_sem]) rfl ⟨_, MarkD.mk ⟨#[]⟩ ⟨#[]⟩ [] [], [], false, rfl, MarkOwn_text 0 _ ⟨#[]⟩ (Nat.zero_le _), List.nodup_nil, by simp, ⟨p, hx0.out, canM_mk (by simp), Nat.le_refl _, hp, fun e => (by cases e), fun y c r h => h.elim⟩, grown_of_below hb0.out _⟩
set_option maxRecDepth 100000 in
set_option maxHeartbeats 16000000 in
theorem smF_of (n : Nat) (hS : Hid (SmF n)) : SmF (n + 1) := by
  intro w g s p deep hx hp hs hdeep hn
  have hgl : g < w.heap.size := hx.lt
  have hss : Hid (s.size ≤ 1048576) := hs
  have hsz : (s.size : Int) ≤ 1048576 := by omega
  have hp0 : (0 : Int) ≤ (p : Int) := by omega
  have hp1 : (p : Int) ≤ 1048576 := by omega
  have hd0 : 1 ≤ deep := by omega
  have hd1 : ¬ 30 < deep := by omega
  have hd2 : deep ≤ 30 := by omega
  have hwd : IntKind.i64.wrap (deep + 1) = deep + 1 := by rw [IntKind.wrap_i64]; omega
  have hdeep' : Hid (deep + 1 = 31 - (n : Int)) := by show _ = _; omega
  have hn' : Hid (n ≤ 30) := by show _ ≤ _; omega
  obtain ⟨iT, hiT0, heT0⟩ := Option.map_eq_some_iff.1 infoMk
  simp only [Prod.mk.injEq] at heT0
  have hiT : Hid (Tryd.prog.info? 27 = some iT) := hiT0
  have heT : Hid (iT.zero = some (.agg #[.string ByteArray.empty, .string ByteArray.empty, .slice none 0 0, .slice none 0 0]) ∧ iT.bytes = 80 ∧ iT.size = 4) := heT0
  obtain ⟨iA, hiA0, heA0⟩ := Option.map_eq_some_iff.1 infoAt
  simp only [Prod.mk.injEq] at heA0
  have hiA : Hid (Tryd.prog.info? 70 = some iA) := hiA0
  have heA : Hid (iA.zero = some (.agg #[.string ByteArray.empty, .string ByteArray.empty]) ∧ iA.bytes = 32 ∧ iA.size = 2) := heA0
  clear hiT0 heT0 hiA0 heA0 hdeep hn hs
  have hb0 : Hid (Below w.heap.size w ((w.alloc (.cells #[.string ⟨#[]⟩, .string ⟨#[]⟩, .slice none 0 0, .slice none 0 0] 27)).alloc (.cells #[.string ⟨#[]⟩, .string ⟨#[]⟩, .slice none 0 0, .slice none 0 0] 27))) := ((Below.refl _ _).alloc (Nat.le_refl _) _).alloc (by simp) _
  have hk0 : Hid (KaSt w g (w.heap.size + 1) (w.heap.size + 2) ⟨#[]⟩ (.slice none 0 0) [] ((w.alloc (.cells #[.string ⟨#[]⟩, .string ⟨#[]⟩, .slice none 0 0, .slice none 0 0] 27)).alloc (.cells #[.string ⟨#[]⟩, .string ⟨#[]⟩, .slice none 0 0, .slice none 0 0] 27))) := ⟨⟨[], [], GrowOwn.nil⟩, by have := Box.new (w.alloc (.cells #[.string ⟨#[]⟩, .string ⟨#[]⟩, .slice none 0 0, .slice none 0 0] 27)) zM4 27; simpa using this, (Box.new w _ _).alloc _, grown_of_below hb0.out _, by simp, hgl, by omega, by omega⟩
  have hx0 : Hid (SrAt ((w.alloc (.cells #[.string ⟨#[]⟩, .string ⟨#[]⟩, .slice none 0 0, .slice none 0 0] 27)).alloc (.cells #[.string ⟨#[]⟩, .string ⟨#[]⟩, .slice none 0 0, .slice none 0 0] 27)) g s p) := hx.below hb0.out
  clear hx hb0
  have d0 := hx0.out.cell 0 rfl
  have d1 := hx0.out.cell 1 rfl
  go_enter Tryd.func36, Tryd.ntmps36
  go_wp2_with fail
  generalize ((w.alloc (.cells #[.string ⟨#[]⟩, .string ⟨#[]⟩, .slice none 0 0, .slice none 0 0] 27)).alloc (.cells #[.string ⟨#[]⟩, .string ⟨#[]⟩, .slice none 0 0, .slice none 0 0] 27)) = w0 at *
  generalize hTB : w.heap.size + 1 = TB at hk0 ⊢
  generalize hbase : w.heap.size + 2 = base at hk0
  clear hTB hbase
  by_cases htx : ∃ h : p < s.size, ¬ s[p] = 60
  · obtain ⟨hlt, hne60⟩ := htx
    have h60 : preP [60] (rest s p) = false := by cases hq : preP [60] (rest s p) with | true => exact absurd ((pre60_at hlt).1 hq) hne60 | false => rfl
    have hltI : (p : Int) < (s.size : Int) := by omega
    have hneN : ¬ s[p].toNat = 60 := fun e => hne60 (UInt8.toNat_inj.1 e)
    clear hne60
    go_quiet (fail)
    go_wp2_with fail
    have hxq : Hid (SrAt (w0.drewN nq) g s p) := hx0.out
    have hkq : Hid (KaSt w g TB base ⟨#[]⟩ (.slice none 0 0) [] (w0.drewN nq)) := KaSt.grown hk0.out grown_drewN
    clear hx0 hk0 d0 d1
    refine (until_any 60 hxq.out hp hss.out).mono ?_
    rintro e w5 ⟨⟨u, rfl, hu⟩, hx5, hg5⟩
    have hul := upto_len 60 (rest s p)
    rw [rest_len, ← hu, bd_len] at hul
    have huz : Hid (u.size ≤ 1048576) := by show _ ≤ _; have := hss.out; omega
    have hu' : Hid (u.data.toList = upto 60 (rest s p)) := hu
    have hx5' : Hid (SrAt w5 g s (p + (upto 60 (rest s p)).length)) := hx5
    have hk5 : Hid (KaSt w g TB base ⟨#[]⟩ (.slice none 0 0) [] w5) := KaSt.grown hkq.out hg5
    clear hxq hkq hu hx5 hg5 hul
    go_wp2_with fail
    refine (specUnescaped_any u _ huz.out).mono ?_
    rintro e w6 ⟨rfl, hb6⟩
    have hx6 : Hid (SrAt w6 g s (p + (upto 60 (rest s p)).length)) := hx5'.out.below hb6
    have hk6 : Hid (KaSt w g TB base ⟨#[]⟩ (.slice none 0 0) [] w6) := KaSt.grown hk5.out (grown_of_below hb6 _)
    clear hx5' hk5 hb6
    cases huv : unL u.data.toList with
    | none =>
      have htm : Hid ((⟨#[]⟩ : ByteArray).size ≤ maxLen) := Nat.zero_le _
      have huv' : Hid (unL (upto 60 (rest s p)) = none) := by show _ = _; rw [← hu'.out]; exact huv
      rw [show unV none = .tuple #[.string ⟨#[]⟩, .bool false] from rfl]
      clear huv
      have hres : Hid (SmRes (n + 1) s p (p + (upto 60 (rest s p)).length) (MarkD.mk ⟨#[]⟩ ⟨#[]⟩ [] []) false) := text_smRes hlt h60 (Or.inr ⟨rfl, huv'.out⟩)
      obtain ⟨_, bT6, br6, hg6, _, _, hwT6, _⟩ := id hk6.out
      have hgw : Hid (w.grownBy w6 (some g)) := hg6
      have r0 := br6.cell 0 rfl
      have r1 := br6.cell 1 rfl
      have r2 := br6.cell 2 rfl
      have r3 := br6.cell 3 rfl
      have fR := br6.unfrozen
      have c0 := bT6.cell 0 rfl
      have c1 := bT6.cell 1 rfl
      have c2 := bT6.cell 2 rfl
      have c3 := bT6.cell 3 rfl
      have fT := bT6.unfrozen
      have hne : ¬ TB = w.heap.size := by omega
      have hne2 : ¬ w.heap.size = TB := by omega
      have hgT : g ≠ TB := by omega
      have br7 : Hid (Box (w6.setCell ⟨TB, 1, none⟩ (.string ⟨#[]⟩)) w.heap.size zM4 27) := Box.other (g' := TB) (i := 1) br6 hne2 (.string ⟨#[]⟩)
      clear bT6 br6 hg6
      go_wp2_with fail
      clear r0 r1 r2 r3 c0 c1 c2 c3 fR fT
      have z1 := Box.set (i := 3) (Box.set (i := 2) (Box.set (i := 1) (Box.set (i := 0) br7.out (.string ⟨#[]⟩)) (.string ⟨#[]⟩)) (.slice none 0 0)) (.slice none 0 0)
      have r0 := z1.cell 0 rfl
      have r1 := z1.cell 1 rfl
      have r2 := z1.cell 2 rfl
      have r3 := z1.cell 3 rfl
      exact bodyPost_ret (v := .tuple #[.agg (List.toArray [.string ⟨#[]⟩, .string ⟨#[]⟩, .slice none 0 0, .slice none 0 0]), .bool false]) (by simp [results, Tryd.results36, go_sem, r0, r1, r2, r3]) rfl ⟨_, MarkD.mk ⟨#[]⟩ ⟨#[]⟩ [] [], [], false, rfl, MarkOwn_text (n + 1) _ ⟨#[]⟩ (htm.out), List.nodup_nil, by simp, ⟨_, (putCells_other [.string ⟨#[]⟩, .string ⟨#[]⟩, .slice none 0 0, .slice none 0 0] (w6.setCell ⟨TB, 1, none⟩ (.string ⟨#[]⟩)) w.heap.size 0 g (Nat.ne_of_lt hgl)).trans (Box.other hx6.out hgT _), hres.out⟩, putCells_grown (w := w) (vs := [.string ⟨#[]⟩, .string ⟨#[]⟩, .slice none 0 0, .slice none 0 0]) (Nat.le_refl _) (grown_new (by omega) hgw.out)⟩
    | some l =>
      have htl : l.length ≤ u.size := by have := unL_length huv; rwa [bd_len] at this
      have huv' : Hid (unL (upto 60 (rest s p)) = some l) := by show _ = _; rw [← hu'.out]; exact huv
      rw [show unV (some l) = .tuple #[.string ⟨l.toArray⟩, .bool true] from rfl]
      clear huv
      obtain ⟨tx, htx⟩ : ∃ tx : ByteArray, tx = ⟨l.toArray⟩ := ⟨_, rfl⟩
      have hte : Hid (l = tx.data.toList) := by show _ = _; rw [htx]
      have htm : Hid (tx.size ≤ maxLen) := by show _ ≤ _; have h1 := huz.out; have h2 := congrArg List.length hte.out; rw [bd_len] at h2; unfold maxLen; omega
      rw [← htx]
      clear htx htl
      have hres : Hid (SmRes (n + 1) s p (p + (upto 60 (rest s p)).length) (MarkD.mk ⟨#[]⟩ tx [] []) true) := text_smRes hlt h60 (Or.inl ⟨rfl, by rw [← hte.out]; exact huv'.out⟩)
      obtain ⟨_, bT6, br6, hg6, _, _, hwT6, _⟩ := id hk6.out
      have hgw : Hid (w.grownBy w6 (some g)) := hg6
      have r0 := br6.cell 0 rfl
      have r1 := br6.cell 1 rfl
      have r2 := br6.cell 2 rfl
      have r3 := br6.cell 3 rfl
      have fR := br6.unfrozen
      have c0 := bT6.cell 0 rfl
      have c1 := bT6.cell 1 rfl
      have c2 := bT6.cell 2 rfl
      have c3 := bT6.cell 3 rfl
      have fT := bT6.unfrozen
      have hne : ¬ TB = w.heap.size := by omega
      have hne2 : ¬ w.heap.size = TB := by omega
      have hgT : g ≠ TB := by omega
      have br7 : Hid (Box (w6.setCell ⟨TB, 1, none⟩ (.string tx)) w.heap.size zM4 27) := Box.other (g' := TB) (i := 1) br6 hne2 (.string tx)
      clear bT6 br6 hg6
      go_wp2_with fail
      clear r0 r1 r2 r3 c0 c1 c2 c3 fR fT
      have z1 := Box.set (i := 3) (Box.set (i := 2) (Box.set (i := 1) (Box.set (i := 0) br7.out (.string ⟨#[]⟩)) (.string tx)) (.slice none 0 0)) (.slice none 0 0)
      have r0 := z1.cell 0 rfl
      have r1 := z1.cell 1 rfl
      have r2 := z1.cell 2 rfl
      have r3 := z1.cell 3 rfl
      exact bodyPost_ret (v := .tuple #[.agg (List.toArray [.string ⟨#[]⟩, .string tx, .slice none 0 0, .slice none 0 0]), .bool true]) (by simp [results, Tryd.results36, go_sem, r0, r1, r2, r3]) rfl ⟨_, MarkD.mk ⟨#[]⟩ tx [] [], [], true, rfl, MarkOwn_text (n + 1) _ tx (htm.out), List.nodup_nil, by simp, ⟨_, (putCells_other [.string ⟨#[]⟩, .string tx, .slice none 0 0, .slice none 0 0] (w6.setCell ⟨TB, 1, none⟩ (.string tx)) w.heap.size 0 g (Nat.ne_of_lt hgl)).trans (Box.other hx6.out hgT _), hres.out⟩, putCells_grown (w := w) (vs := [.string ⟨#[]⟩, .string tx, .slice none 0 0, .slice none 0 0]) (Nat.le_refl _) (grown_new (by omega) hgw.out)⟩
  by_cases hlt : p < s.size
  rotate_left
  · have hltF : decide ((p : Int) < (s.size : Int)) = false := by simpa using hlt
    have h60 : preP [60] (rest s p) = false := by
      have e : rest s p = [] := by unfold rest; rw [List.drop_of_length_le (by rw [bd_len]; omega)]
      rw [e]; rfl
    have htm : Hid ((⟨#[]⟩ : ByteArray).size ≤ maxLen) := Nat.zero_le _
    have hnoM : Hid (NoM (n + 1) s p) := noM_open (Or.inl hlt) (fun h => absurd h hlt)
    clear htx
    go_quiet (fail)
    go_wp2_with fail
    have hxq : Hid (SrAt (w0.drewN nq) g s p) := hx0.out
    have hkq : Hid (KaSt w g TB base ⟨#[]⟩ (.slice none 0 0) [] (w0.drewN nq)) := KaSt.grown hk0.out grown_drewN
    clear hx0 hk0 d0 d1
    refine (is_no hxq.out hp hss.out (by decide) h60).mono ?_
    rintro e w1 ⟨rfl, n1, rfl⟩
    have hx1 : Hid (SrAt ((w0.drewN nq).drewN n1) g s p) := hxq.out
    have hk1 : Hid (KaSt w g TB base ⟨#[]⟩ (.slice none 0 0) [] ((w0.drewN nq).drewN n1)) := KaSt.grown hkq.out grown_drewN
    clear hxq hkq
    generalize (w0.drewN nq).drewN n1 = w1 at *
    obtain ⟨_, bT6, br6, _, _, _, hwT6, _⟩ := id hk1.out
    have r0 := br6.cell 0 rfl
    have r1 := br6.cell 1 rfl
    have r2 := br6.cell 2 rfl
    have r3 := br6.cell 3 rfl
    have fR := br6.unfrozen
    have c0 := bT6.cell 0 rfl
    have c1 := bT6.cell 1 rfl
    have c2 := bT6.cell 2 rfl
    have c3 := bT6.cell 3 rfl
    have hne : ¬ TB = w.heap.size := by omega
    clear bT6
    go_wp2_with fail
    have z1 := Box.set (i := 3) (Box.set (i := 2) (Box.set (i := 1) (Box.set (i := 0) br6 (.string ⟨#[]⟩)) (.string ⟨#[]⟩)) (.slice none 0 0)) (.slice none 0 0)
    clear r0 r1 r2 r3 c0 c1 c2 c3
    have r0 := z1.cell 0 rfl
    have r1 := z1.cell 1 rfl
    have r2 := z1.cell 2 rfl
    have r3 := z1.cell 3 rfl
    obtain ⟨fs, q1, q2, q3, q5⟩ := KaSt.done (n := n + 1) (w' := putCells w1 w.heap.size 0 [.string ⟨#[]⟩, .string ⟨#[]⟩, .slice none 0 0, .slice none 0 0]) hk1.out htm.out (fun b h2 => putCells_other _ _ _ _ _ h2) (by rw [putCells_size]; exact Nat.le_refl _) ⟨rfl, rfl, rfl⟩
    exact bodyPost_ret (v := .tuple #[.agg (List.toArray [.string ⟨#[]⟩, .string ⟨#[]⟩, .slice none 0 0, .slice none 0 0]), .bool false]) (by simp [results, Tryd.results36, go_sem, r0, r1, r2, r3]) rfl ⟨_, MarkD.mk ⟨#[]⟩ ⟨#[]⟩ [] [], fs, false, rfl, q1, q2, q3, ⟨p, (putCells_other [.string ⟨#[]⟩, .string ⟨#[]⟩, .slice none 0 0, .slice none 0 0] w1 w.heap.size 0 g (Nat.ne_of_lt hgl)).trans hx1.out, canM_mk (by simp), Nat.le_refl _, hp, fun e => (by cases e), fun y c r qq => (hnoM.out y c r qq).elim⟩, q5⟩
  have h60 : preP [60] (rest s p) = true := (pre60_at hlt).2 (Classical.not_not.1 fun h => htx ⟨hlt, h⟩)
  have hltI : (p : Int) < (s.size : Int) := by omega
  have hneN : s[p].toNat = 60 := by rw [(pre60_at hlt).1 h60]; rfl
  clear htx
  go_quiet (fail)
  go_wp2_with fail
  have hxq : Hid (SrAt (w0.drewN nq) g s p) := hx0.out
  have hkq : Hid (KaSt w g TB base ⟨#[]⟩ (.slice none 0 0) [] (w0.drewN nq)) := KaSt.grown hk0.out grown_drewN
  clear hx0 hk0 d0 d1 hltI hneN
  refine (is_yes hxq.out hp hss.out h60).mono ?_
  rintro e w1 ⟨rfl, hx1, hp1x, hg1⟩
  have hl1 : Hid (rest s p = 60 :: rest s (p + 1)) := rest_of (sign := ⟨#[60]⟩) h60
  have hx1' : Hid (SrAt w1 g s (p + 1)) := hx1
  have hp1' : Hid (p + 1 ≤ s.size) := hp1x
  have hk1 : Hid (KaSt w g TB base ⟨#[]⟩ (.slice none 0 0) [] w1) := KaSt.grown hkq.out hg1
  clear hx1 hp1x hg1 hkq hxq h60
  go_wp2_with fail
  refine (word_any hx1'.out hp1'.out hss.out).mono ?_
  rintro e w2 ⟨⟨tag, rfl, htag⟩, hx2, hg2⟩
  have hrw : Hid (rest s (p + 1) = tag.data.toList ++ rest s (p + 1 + tag.size)) := by
    have := rest_lw (s := s) (p := p + 1)
    rw [← htag, bd_len] at this; exact this
  have hp2 : Hid (p + 1 + tag.size ≤ s.size) := by
    show _ ≤ _
    have := congrArg List.length hrw.out
    rw [List.length_append, rest_len, bd_len] at this
    have := hp1'.out
    omega
  have htz : Hid (tag.size ≤ 1048576) := by show _ ≤ _; have := hp2.out; have := hss.out; omega
  have htm : Hid (tag.size ≤ maxLen) := by show _ ≤ _; have := htz.out; unfold maxLen; omega
  have hat0 : Hid (AttS n tag [] s p (p + 1 + tag.size)) := attS_zero hl1.out htag hrw.out
  have hk2 : Hid (KaSt w g TB base tag (.slice none 0 0) [] (w2.setCell ⟨TB, 0, none⟩ (.string tag))) := KaSt.tagged (KaSt.grown hk1.out hg2) tag
  have hwT : w.heap.size < TB := hk2.out.2.2.2.2.2.2.1
  have hTb : TB < base := hk2.out.2.2.2.2.2.2.2
  have hgT : g ≠ TB := by omega
  have hx2' : Hid (SrAt (w2.setCell ⟨TB, 0, none⟩ (.string tag)) g s (p + 1 + tag.size)) := by rw [← htag, bd_len] at hx2; exact Box.other hx2 hgT _
  have bT2 := (KaSt.grown hk1.out hg2).2.1
  have cT0 := bT2.cell 0 rfl
  have fT0 := bT2.unfrozen 0
  clear htag hx2 hg2 hk1 hx1' bT2 hrw hl1
  go_wp2_with fail
  clear cT0 fT0
  generalize w2.setCell ⟨TB, 0, none⟩ (.string tag) = w3 at *
  have hpp : Hid (p < p + 1 + tag.size) := by show _ < _; omega
  generalize p + 1 + tag.size = p1 at hat0 hx2' hp2 hpp
  go_loopw [] (fun wr => ∃ (q : Nat) (va : Value) (xs : List AttrD), p1 ≤ q ∧ q ≤ s.size ∧ Hid (KaSt w g TB base tag va xs wr) ∧ Hid (SrAt wr g s q) ∧ Hid (AttS n tag xs s p q) ∧ Hid (xs.length ≤ q)) (fun wr => s.size - posW g wr)
  case atStart => exact ⟨p1, .slice none 0 0, [], Nat.le_refl _, hp2.out, hk2, hx2', hat0, by show (0 : Nat) ≤ _; omega⟩
  case round =>
    obtain ⟨q, va, xs, hq0, hq, hst, hx, hat, hxl⟩ := hrel
    have hpos : Hid (posW g wr = q) := posW_at hx.out
    clear hk2 hx2'
    have hpq : Hid (p < q) := by show _ < _; have := hpp.out; omega
    obtain ⟨av, capv, rfl⟩ : ∃ av capv, va = .slice av xs.length capv := by obtain ⟨⟨bss, css, hgr⟩, _⟩ := id hst.out; exact hgr.form
    go_wp2_with fail
    cases hpre : preP [32] (rest s q)
    · have hpre' : Hid (preP [32] (rest s q) = false) := hpre
      refine (is_no hx.out hq hss.out (by decide) hpre).mono ?_
      rintro e w1 ⟨rfl, n1, rfl⟩
      have hst1 : Hid (KaSt w g TB base tag (.slice av xs.length capv) xs (wr.drewN n1)) := KaSt.grown hst.out grown_drewN
      have hx1 : Hid (SrAt (wr.drewN n1) g s q) := hx.out
      clear hst hx hpre hpos
      generalize wr.drewN n1 = w1 at *
      go_wp2_with fail
      cases h62 : preP [62] (rest s q)
      · refine (is_no hx1.out hq hss.out (by decide) h62).mono ?_
        rintro e w6 ⟨rfl, n6, rfl⟩
        have hno : Hid (NoM (n + 1) s p) := noM_close hat.out hpre'.out h62
        have hk6 : Hid (KaSt w g TB base tag (.slice av xs.length capv) xs (w1.drewN n6)) := KaSt.grown hst1.out grown_drewN
        have hx6 : Hid (SrAt (w1.drewN n6) g s q) := hx1.out
        clear hx1 hst1 h62
        generalize w1.drewN n6 = w6 at *
        obtain ⟨_, bT6, br6, _, _, _, hwT6, _⟩ := id hk6.out
        have r0 := br6.cell 0 rfl
        have r1 := br6.cell 1 rfl
        have r2 := br6.cell 2 rfl
        have r3 := br6.cell 3 rfl
        have fR := br6.unfrozen
        have c0 := bT6.cell 0 rfl
        have c1 := bT6.cell 1 rfl
        have c2 := bT6.cell 2 rfl
        have c3 := bT6.cell 3 rfl
        have hne : ¬ TB = w.heap.size := by omega
        clear bT6
        go_wp2_with fail
        have z1 := Box.set (i := 3) (Box.set (i := 2) (Box.set (i := 1) (Box.set (i := 0) br6 (.string tag)) (.string ⟨#[]⟩)) (.slice av xs.length capv)) (.slice none 0 0)
        clear r0 r1 r2 r3 c0 c1 c2 c3
        have r0 := z1.cell 0 rfl
        have r1 := z1.cell 1 rfl
        have r2 := z1.cell 2 rfl
        have r3 := z1.cell 3 rfl
        obtain ⟨fs, q1, q2, q3, q5⟩ := KaSt.done (n := n + 1) (w' := putCells w6 w.heap.size 0 [.string tag, .string ⟨#[]⟩, .slice av xs.length capv, .slice none 0 0]) hk6.out htm.out (fun b h2 => putCells_other _ _ _ _ _ h2) (by rw [putCells_size]; exact Nat.le_refl _) ⟨rfl, rfl, rfl⟩
        exact bodyPost_ret (v := .tuple #[.agg (List.toArray [.string tag, .string ⟨#[]⟩, .slice av xs.length capv, .slice none 0 0]), .bool false]) (by simp [results, Tryd.results36, go_sem, r0, r1, r2, r3]) rfl ⟨_, MarkD.mk tag ⟨#[]⟩ xs [], fs, false, rfl, q1, q2, q3, ⟨_, (putCells_other [.string tag, .string ⟨#[]⟩, .slice av xs.length capv, .slice none 0 0] w6 w.heap.size 0 g (Nat.ne_of_lt hgl)).trans hx6.out, canM_mk (by simp), by have := hpq.out; omega, hq, fun e => (by cases e), fun y c r qq => (hno.out y c r qq).elim⟩, q5⟩
      refine (is_yes hx1.out hq hss.out h62).mono ?_
      rintro e w4 ⟨rfl, hx4, hp4, hg4⟩
      have hin : Hid (InS n tag xs s p (q + 1)) := inS_of hat.out hpre'.out h62
      obtain ⟨fa, hk4x⟩ := KaSt.kids (n := n + 1) (KaSt.grown hst1.out hg4)
      have hk4 : Hid (KmSt (n + 1) w g TB w4.heap.size tag (.slice av xs.length capv) xs fa (.slice none 0 0) [] w4) := hk4x
      have hx4' : Hid (SrAt w4 g s (q + 1)) := hx4
      have hp4' : Hid (q + 1 ≤ s.size) := hp4
      have hpp0 : Hid (p < q + 1) := by show _ < _; have := hpq.out; omega
      generalize w4.heap.size = bs at hk4
      generalize q + 1 = p0 at hin hx4' hp4' hpp0
      clear hk4x hx4 hp4 hg4 hst1 hx1 h62 hat hpre' hpq hxl hq hq0
      clear q
      go_wp2_with fail
      go_loopw [] (fun wr => ∃ (q : Nat) (vk : Value) (ks : List MarkD), p0 ≤ q ∧ q ≤ s.size ∧ Hid (KmSt (n + 1) w g TB bs tag (.slice av xs.length capv) xs fa vk ks wr) ∧ Hid (SrAt wr g s q) ∧ Hid (RestS n ks s p0 q) ∧ Hid (∀ k ∈ ks, CanM (n + 1) k) ∧ Hid (ks.length ≤ q)) (fun wr => s.size - posW g wr)
      case atStart => exact ⟨p0, .slice none 0 0, [], Nat.le_refl _, hp4'.out, hk4, hx4', fun ks c z h => ⟨ks, c, rfl, h⟩, by show ∀ k ∈ [], _; simp, by show (0 : Nat) ≤ _; omega⟩
      case round =>
        obtain ⟨q, vk, ks, hq0, hq, hst, hx, hre, hcan, hxl⟩ := hrel
        have hpos : Hid (posW g wr = q) := posW_at hx.out
        clear hk4 hx4'
        have hpq : Hid (p < q) := by show _ < _; have := hpp0.out; omega
        obtain ⟨avk, capk, rfl⟩ : ∃ av capv, vk = .slice av ks.length capv := by obtain ⟨⟨bss, css, hgr⟩, _⟩ := id hst.out; exact hgr.form
        go_wp2_with fail
        cases hpre : preP [60, 47] (rest s q)
        · have hpre' : Hid (preP [60, 47] (rest s q) = false) := hpre
          refine (is_no hx.out hq hss.out (by decide) hpre).mono ?_
          rintro e w1 ⟨rfl, n1, rfl⟩
          have hst1 : Hid (KmSt (n + 1) w g TB bs tag (.slice av xs.length capv) xs fa (.slice avk ks.length capk) ks (wr.drewN n1)) := KmSt.grown hst.out grown_drewN
          have hx1 : Hid (SrAt (wr.drewN n1) g s q) := hx.out
          clear hst hx hpre
          generalize wr.drewN n1 = w1 at *
          go_wp2_with fail
          refine (hS.out w1 g s q (deep + 1) hx1.out hq hss.out hdeep'.out hn'.out).mono ?_
          rintro e w5 ⟨csk, xk, fsk, bk, rfl, hok, hndk, hlok, ⟨q5, hx5, hcn, hq5, hqs, hlt5, hall5⟩, hg5⟩
          obtain ⟨kt, ku, a2, l2, c2, a3, l3, c3, rfl⟩ := hok.form4
          have hok' : Hid (MarkOwn (n + 1) w5 [.string kt, .string ku, .slice a2 l2 c2, .slice a3 l3 c3] xk fsk) := hok
          have hndk' : Hid fsk.Nodup := hndk
          have hlok' : Hid (∀ b ∈ fsk, w1.heap.size + 1 ≤ b) := hlok
          have hall5' : Hid (∀ y c r, Md n y c (rest s q) r → bk = true ∧ xk = y ∧ rest s q5 = r) := hall5
          have hst5 : Hid (KmSt (n + 1) w g TB bs tag (.slice av xs.length capv) xs fa (.slice avk ks.length capk) ks w5) := KmSt.grown hst1.out hg5
          have hx5' : Hid (SrAt w5 g s q5) := hx5
          have hz5 := hg5.size
          have hg5' : Hid (w1.grownBy w5 (some g)) := hg5
          clear hok hndk hlok hall5 hx5 hg5
          have hb6 : Hid (Below w5.heap.size w5 (w5.alloc (.cells #[.string kt, .string ku, .slice a2 l2 c2, .slice a3 l3 c3] 27))) := (Below.refl _ _).alloc (Nat.le_refl _) _
          have hst6 : Hid (KmSt (n + 1) w g TB bs tag (.slice av xs.length capv) xs fa (.slice avk ks.length capk) ks (w5.alloc (.cells #[.string kt, .string ku, .slice a2 l2 c2, .slice a3 l3 c3] 27))) := KmSt.grown hst5.out (grown_of_below hb6.out _)
          have hx6 : Hid (SrAt (w5.alloc (.cells #[.string kt, .string ku, .slice a2 l2 c2, .slice a3 l3 c3] 27)) g s q5) := hx5'.out.below hb6.out
          cases bk
          · have hno : Hid (NoM (n + 1) s p) := noM_kid hin.out hre.out hpre'.out (fun y c r h => by have := (hall5'.out y c r h).1; cases this)
            obtain ⟨_, bT6, br6, _, _, _, hwT6, _⟩ := id hst6.out
            have r0 := br6.cell 0 rfl
            have r1 := br6.cell 1 rfl
            have r2 := br6.cell 2 rfl
            have r3 := br6.cell 3 rfl
            have fR := br6.unfrozen
            have c0 := bT6.cell 0 rfl
            have c1 := bT6.cell 1 rfl
            have c2 := bT6.cell 2 rfl
            have c3 := bT6.cell 3 rfl
            have hne : ¬ TB = w.heap.size := by omega
            clear bT6
            go_wp2_with fail
            have z1 := Box.set (i := 3) (Box.set (i := 2) (Box.set (i := 1) (Box.set (i := 0) br6 (.string tag)) (.string ⟨#[]⟩)) (.slice av xs.length capv)) (.slice avk ks.length capk)
            clear r0 r1 r2 r3 c0 c1 c2 c3
            have r0 := z1.cell 0 rfl
            have r1 := z1.cell 1 rfl
            have r2 := z1.cell 2 rfl
            have r3 := z1.cell 3 rfl
            obtain ⟨fs, q1, q2, q3, q5⟩ := KmSt.done (w' := putCells (w5.alloc (.cells #[.string kt, .string ku, .slice a2 l2 c2, .slice a3 l3 c3] 27)) w.heap.size 0 [.string tag, .string ⟨#[]⟩, .slice av xs.length capv, .slice avk ks.length capk]) hst6.out htm.out (fun b h2 => putCells_other _ _ _ _ _ h2) (by rw [putCells_size]; exact Nat.le_refl _) ⟨rfl, rfl, rfl⟩
            exact bodyPost_ret (v := .tuple #[.agg (List.toArray [.string tag, .string ⟨#[]⟩, .slice av xs.length capv, .slice avk ks.length capk]), .bool false]) (by simp [results, Tryd.results36, go_sem, r0, r1, r2, r3]) rfl ⟨_, MarkD.mk tag ⟨#[]⟩ xs ks, fs, false, rfl, q1, q2, q3, ⟨_, (putCells_other [.string tag, .string ⟨#[]⟩, .slice av xs.length capv, .slice avk ks.length capk] (w5.alloc (.cells #[.string kt, .string ku, .slice a2 l2 c2, .slice a3 l3 c3] 27)) w.heap.size 0 g (Nat.ne_of_lt hgl)).trans hx6.out, canM_mk hcan.out, by have := hpq.out; omega, hqs, fun e => (by cases e), fun y c r qq => (hno.out y c r qq).elim⟩, q5⟩
          · have hlt : q < q5 := hlt5 rfl
            have hre6 : Hid (RestS n (ks ++ [xk]) s p0 q5) := RestS.more hre.out hpre'.out (fun y c r h => (hall5'.out y c r h).2)
            obtain ⟨⟨bss, css, hgr1⟩, _, _, _, hbs6, _, hwT6, hTb6, _⟩ := id hst1.out
            have hgr6 : Hid (GrowOwn 27 4 (MarkOwn (n + 1)) bs w1 (.slice avk ks.length capk) ks bss css) := hgr1
            have cT3 := hst6.out.2.1.cell 3 rfl
            have hs7 : Hid (w1.heap.size ≤ ((w5.alloc (.cells #[.string kt, .string ku, .slice a2 l2 c2, .slice a3 l3 c3] 27)).alloc (.cells #[.string kt, .string ku, .slice a2 l2 c2, .slice a3 l3 c3] 27)).heap.size) := by show _ ≤ _; simp; omega
            have hb7 : Hid (Below (w5.alloc (.cells #[.string kt, .string ku, .slice a2 l2 c2, .slice a3 l3 c3] 27)).heap.size (w5.alloc (.cells #[.string kt, .string ku, .slice a2 l2 c2, .slice a3 l3 c3] 27)) ((w5.alloc (.cells #[.string kt, .string ku, .slice a2 l2 c2, .slice a3 l3 c3] 27)).alloc (.cells #[.string kt, .string ku, .slice a2 l2 c2, .slice a3 l3 c3] 27))) := (Below.refl _ _).alloc (Nat.le_refl _) _
            have hk7 : Hid (∀ b, bs ≤ b → b < w1.heap.size → ((w5.alloc (.cells #[.string kt, .string ku, .slice a2 l2 c2, .slice a3 l3 c3] 27)).alloc (.cells #[.string kt, .string ku, .slice a2 l2 c2, .slice a3 l3 c3] 27)).heap[b]? = w1.heap[b]?) := fun b h1 h2 => by
              rw [Below.heap_alloc _ _ _ (by simp; omega), Below.heap_alloc _ _ _ (by omega), hg5'.out.block b h2 (fun e => by injection e; omega)]
            have hok7 : Hid (MarkOwn (n + 1) ((w5.alloc (.cells #[.string kt, .string ku, .slice a2 l2 c2, .slice a3 l3 c3] 27)).alloc (.cells #[.string kt, .string ku, .slice a2 l2 c2, .slice a3 l3 c3] 27)) [.string kt, .string ku, .slice a2 l2 c2, .slice a3 l3 c3] xk fsk) := MarkOwn_stays _ _ _ _ _ _ (fun b hb => by have := MarkOwn_lt _ _ _ _ _ hok'.out b hb; rw [Below.heap_alloc _ _ _ (by simp; omega), Below.heap_alloc _ _ _ this]) hok'.out
            have hhi7 : Hid (∀ b ∈ fsk, b < ((w5.alloc (.cells #[.string kt, .string ku, .slice a2 l2 c2, .slice a3 l3 c3] 27)).alloc (.cells #[.string kt, .string ku, .slice a2 l2 c2, .slice a3 l3 c3] 27)).heap.size) := fun b hb => by have := MarkOwn_lt _ _ _ _ _ hok'.out b hb; simp; omega
            have hlok6 : Hid (∀ b ∈ fsk, w1.heap.size ≤ b) := fun b hb => by have := hlok'.out b hb; omega
            have nb : Hid (Box ((w5.alloc (.cells #[.string kt, .string ku, .slice a2 l2 c2, .slice a3 l3 c3] 27)).alloc (.cells #[.string kt, .string ku, .slice a2 l2 c2, .slice a3 l3 c3] 27)) (w5.alloc (.cells #[.string kt, .string ku, .slice a2 l2 c2, .slice a3 l3 c3] 27)).heap.size [.string kt, .string ku, .slice a2 l2 c2, .slice a3 l3 c3] 27) := Box.new (w5.alloc (.cells #[.string kt, .string ku, .slice a2 l2 c2, .slice a3 l3 c3] 27)) _ _
            have nb2 : Hid (Box ((w5.alloc (.cells #[.string kt, .string ku, .slice a2 l2 c2, .slice a3 l3 c3] 27)).alloc (.cells #[.string kt, .string ku, .slice a2 l2 c2, .slice a3 l3 c3] 27)) (w5.heap.size + 1) [.string kt, .string ku, .slice a2 l2 c2, .slice a3 l3 c3] 27) := by have := nb.out; simpa [Hid] using this
            have bT7 : Hid (Box ((w5.alloc (.cells #[.string kt, .string ku, .slice a2 l2 c2, .slice a3 l3 c3] 27)).alloc (.cells #[.string kt, .string ku, .slice a2 l2 c2, .slice a3 l3 c3] 27)) TB [.string tag, .string ⟨#[]⟩, .slice av xs.length capv, .slice avk ks.length capk] 27) := hst6.out.2.1.alloc _
            go_wp2_with (at_builtin; refine wpList_append_growK (MarkOwn_stays (n + 1)) rfl _ _ 25 rfl bs iT _ 80 Tryd.underlying25 hiT.out heT.out.1 heT.out.2.2 heT.out.2.1 rfl (by decide) (y := xk) (fs := fsk) (cs := [.string kt, .string ku, .slice a2 l2 c2, .slice a3 l3 c3]) (v := .slice avk ks.length capk) rfl hgr6.out hs7.out hk7.out hbs6 _ _ rfl rfl (by intro i u hu; match i, hu with | 0, hu => (simp at hu; subst hu; exact nb2.out.cell 0 rfl) | 1, hu => (simp at hu; subst hu; exact nb2.out.cell 1 rfl) | 2, hu => (simp at hu; subst hu; exact nb2.out.cell 2 rfl) | 3, hu => (simp at hu; subst hu; exact nb2.out.cell 3 rfl) | i + 4, hu => simp at hu) (by intro u hu; simp at hu; rcases hu with rfl | rfl | rfl | rfl <;> rfl) hok7.out hndk'.out hlok6.out hhi7.out (by have := hxl.out; have := hss.out; unfold maxLen; omega) (by have := hxl.out; have := hss.out; omega) ?_; intro g3 capg w8 hgr8 hg8 hb8; have hgr8' : Hid (GrowOwn 27 4 (MarkOwn (n + 1)) bs w8 (.slice (some ⟨g3, 0, none⟩) (ks.length + 1) capg) (ks ++ [xk]) _ _) := hgr8; have hg8' : Hid (World.grownBy _ w8 (Value.ownBlock (.slice avk ks.length capk))) := hg8; have bT8 : Hid (Box w8 TB [.string tag, .string ⟨#[]⟩, .slice av xs.length capv, .slice avk ks.length capk] 27) := box_low hb8 hTb6 bT7.out; have cT8 := bT8.out.cell 3 rfl; have fT8 := bT8.out.unfrozen 3; clear hgr8 hg8 hb8)
            obtain ⟨hst9, hgg9⟩ := KmSt.step2 hst6.out hb7.out hgr8'.out hg8'.out
            have hst9' : Hid (KmSt (n + 1) w g TB bs tag (.slice av xs.length capv) xs fa _ _ _) := hst9
            have hx9 : Hid (SrAt (w8.setCell ⟨TB, 3, none⟩ (.slice (some ⟨g3, 0, none⟩) (ks.length + 1) capg)) g s q5) := hgg9.trans hx6.out
            clear hst9 hgg9
            go_roundw
            case rel => exact ⟨q5, _, ks ++ [xk], by omega, hqs, hst9', hx9, hre6, by show ∀ k ∈ ks ++ [xk], _; intro k hk; rcases List.mem_append.1 hk with h | h; exact hcan.out k h; (simp at h; rw [h]; exact hcn), by show _ ≤ _; have := hxl.out; simp; omega⟩
            case measure => rw [hpos.out, posW_at hx9.out]; omega
        · have hqe : Hid (rest s q = 60 :: 47 :: rest s (q + 2)) := rest_of (sign := ⟨#[60, 47]⟩) hpre
          refine (is_yes hx.out hq hss.out hpre).mono ?_
          rintro e wz ⟨rfl, hxz0, hpz0, hgz⟩
          have hxz1 : Hid (SrAt wz g s (q + 2)) := hxz0
          have hqz : Hid (q + 2 ≤ s.size) := hpz0
          have hst1 : Hid (KmSt (n + 1) w g TB bs tag (.slice av xs.length capv) xs fa (.slice avk ks.length capk) ks wz) := KmSt.grown hst.out hgz
          have hdone : Hid (∀ y c r, Md (n + 1) y c (rest s p) r → MarkD.mk tag ⟨#[]⟩ xs ks = y ∧ (preP tag.data.toList (rest s (q + 2)) = true ∧ preP [62] (rest s (q + 2 + tag.size)) = true) ∧ rest s (q + 2 + tag.size + 1) = r) := doneSM hin.out hre.out hqe.out
          have cz0 := hst1.out.2.1.cell 0 rfl
          have cz1 := hst1.out.2.1.cell 1 rfl
          have cz2 := hst1.out.2.1.cell 2 rfl
          have cz3 := hst1.out.2.1.cell 3 rfl
          clear hxz0 hpz0 hgz hst hx hpre
          have hxz : Hid (SrAt wz.drew g s (q + 2)) := hxz1.out
          have hstz : Hid (KmSt (n + 1) w g TB bs tag (.slice av xs.length capv) xs fa (.slice avk ks.length capk) ks wz.drew) := KmSt.grown hst1.out ⟨rfl, rfl, rfl, Nat.le_refl _, fun _ _ _ => rfl⟩
          clear hxz1 hst1
          clear hre hin hqe hxl hpos hS hdeep' hn' hiT heT hiA heA hpp0 hp4' hwd hd0 hd1 hd2 hp0 hp1 hsz
          go_wp2_with fail
          cases hi1 : preP tag.data.toList (rest s (q + 2))
          · skip
            refine wp_region_held_drew (S := fun w' => w'.cell? ⟨TB, 0, none⟩ = some (.string tag) ∧ w'.cell? ⟨TB, 1, none⟩ = some (.string ⟨#[]⟩) ∧ w'.cell? ⟨TB, 2, none⟩ = some (.slice av xs.length capv) ∧ w'.cell? ⟨TB, 3, none⟩ = some (.slice avk ks.length capk)) (by kernel_rfl) ⟨cz0, cz1, cz2, cz3⟩ (fun hHeld => ?_)
            refine tq (i := 0) (d := 111) ?_
            simp only [sz, ss]
            refine tq (i := 1) (d := 112) ?_
            simp only [sz, ss]
            refine tq (i := 2) (d := 113) ?_
            simp only [sz, ss]
            refine tq (i := 3) (d := 114) ?_
            simp only [sz, ss]
            refine wpAnyH_ready (rs := [4]) (by kernel_rfl) (by simp) ?_
            refine AllReadyH.cons rfl (fun K hK => ?_) AllReadyH.nil
            go_simp
            refine (is_no hxz.out hqz.out hss.out htz.out hi1).mono ?_
            rintro e wa ⟨rfl, na, rfl⟩
            have hxb : Hid (SrAt (wz.drew.drewN na) g s (q + 2)) := hxz.out
            have hstb : Hid (KmSt (n + 1) w g TB bs tag (.slice av xs.length capv) xs fa (.slice avk ks.length capk) ks (wz.drew.drewN na)) := KmSt.grown hstz.out ⟨rfl, rfl, rfl, Nat.le_refl _, fun _ _ _ => rfl⟩
            clear hxz hstz
            generalize wz.drew.drewN na = wa at *
            refine hK.out _ _ ⟨hstb.out.2.1.cell 0 rfl, hstb.out.2.1.cell 1 rfl, hstb.out.2.1.cell 2 rfl, hstb.out.2.1.cell 3 rfl⟩ (fun hHeld => ?_)
            clear hK K
            refine tq (i := 5) (d := 116) ?_
            simp only [sz, ss]
            refine tn (i := 6) (d := 117) ?_
            simp only [sz, ss]
            refine tn (i := 7) (d := 118) ?_
            simp only [sz, ss]
            refine tq (i := 8) (d := 119) ?_
            simp only [sz, ss]
            refine wpAnyH_ready (rs := [9]) (by kernel_rfl) (by simp) ?_
            refine AllReadyH.cons rfl (fun K hK => ?_) AllReadyH.nil
            obtain ⟨_, _, brb, _, _, _, hwTb, _⟩ := id hstb.out
            have r0 := brb.cell 0 rfl
            have r1 := brb.cell 1 rfl
            have r2 := brb.cell 2 rfl
            have r3 := brb.cell 3 rfl
            have fR := brb.unfrozen
            have hneb : ¬ TB = w.heap.size := by omega
            clear brb
            go_simp
            refine hK.out _ _ ⟨(World.cell?_of_block (w := wa) (putCells_other [.string tag, .string ⟨#[]⟩, .slice av xs.length capv, .slice avk ks.length capk] wa w.heap.size 0 TB hneb)).trans (hstb.out.2.1.cell 0 rfl), (World.cell?_of_block (w := wa) (putCells_other [.string tag, .string ⟨#[]⟩, .slice av xs.length capv, .slice avk ks.length capk] wa w.heap.size 0 TB hneb)).trans (hstb.out.2.1.cell 1 rfl), (World.cell?_of_block (w := wa) (putCells_other [.string tag, .string ⟨#[]⟩, .slice av xs.length capv, .slice avk ks.length capk] wa w.heap.size 0 TB hneb)).trans (hstb.out.2.1.cell 2 rfl), (World.cell?_of_block (w := wa) (putCells_other [.string tag, .string ⟨#[]⟩, .slice av xs.length capv, .slice avk ks.length capk] wa w.heap.size 0 TB hneb)).trans (hstb.out.2.1.cell 3 rfl)⟩ (fun hHeld => ?_)
            clear hK K
            refine tq (i := 10) (d := 5) ?_
            simp only [sz, ss]
            refine wpAnyH_done (by kernel_rfl) ?_ _
            go_wp2_with fail
            obtain ⟨fs, q1, q2, q3, q5⟩ := KmSt.done (w' := putCells wa w.heap.size 0 [.string tag, .string ⟨#[]⟩, .slice av xs.length capv, .slice avk ks.length capk]) hstb.out htm.out (fun b h2 => putCells_other _ _ _ _ _ h2) (by rw [putCells_size]; exact Nat.le_refl _) ⟨rfl, rfl, rfl⟩
            clear r0 r1 r2 r3
            have z1 := Box.set (i := 3) (Box.set (i := 2) (Box.set (i := 1) (Box.set (i := 0) hstb.out.2.2.1 (.string tag)) (.string ⟨#[]⟩)) (.slice av xs.length capv)) (.slice avk ks.length capk)
            have z10 := z1.cell 0 rfl
            have z11 := z1.cell 1 rfl
            have z12 := z1.cell 2 rfl
            have z13 := z1.cell 3 rfl
            exact bodyPost_ret (v := .tuple #[.agg (List.toArray [.string tag, .string ⟨#[]⟩, .slice av xs.length capv, .slice avk ks.length capk]), .bool false]) (by simp [results, Tryd.results36, go_sem, z10, z11, z12, z13]) rfl ⟨_, MarkD.mk tag ⟨#[]⟩ xs ks, fs, false, rfl, q1, q2, q3, ⟨_, (putCells_other [.string tag, .string ⟨#[]⟩, .slice av xs.length capv, .slice avk ks.length capk] wa w.heap.size 0 g (Nat.ne_of_lt hgl)).trans hxb.out, canM_mk hcan.out, by have := hpq.out; omega, hqz.out, fun e => (by cases e), fun y c r qq => (by rw [(hdone.out y c r qq).2.1.1] at hi1; cases hi1)⟩, q5⟩
          · cases hi2 : preP [62] (rest s (q + 2 + tag.size))
            · skip
              refine wp_region_held_drew (S := fun w' => w'.cell? ⟨TB, 0, none⟩ = some (.string tag) ∧ w'.cell? ⟨TB, 1, none⟩ = some (.string ⟨#[]⟩) ∧ w'.cell? ⟨TB, 2, none⟩ = some (.slice av xs.length capv) ∧ w'.cell? ⟨TB, 3, none⟩ = some (.slice avk ks.length capk)) (by kernel_rfl) ⟨cz0, cz1, cz2, cz3⟩ (fun hHeld => ?_)
              refine tq (i := 0) (d := 111) ?_
              simp only [sz, ss]
              refine tq (i := 1) (d := 112) ?_
              simp only [sz, ss]
              refine tq (i := 2) (d := 113) ?_
              simp only [sz, ss]
              refine tq (i := 3) (d := 114) ?_
              simp only [sz, ss]
              refine wpAnyH_ready (rs := [4]) (by kernel_rfl) (by simp) ?_
              refine AllReadyH.cons rfl (fun K hK => ?_) AllReadyH.nil
              go_simp
              refine (is_yes hxz.out hqz.out hss.out hi1).mono ?_
              rintro e wa ⟨rfl, hxa0, hpa, hga⟩
              have hxa : Hid (SrAt wa g s (q + 2 + tag.size)) := hxa0
              have hpa' : Hid (q + 2 + tag.size ≤ s.size) := hpa
              have hsta : Hid (KmSt (n + 1) w g TB bs tag (.slice av xs.length capv) xs fa (.slice avk ks.length capk) ks wa) := KmSt.grown hstz.out ⟨hga.os, hga.tape, hga.output, hga.size, hga.block⟩
              clear hxa0 hpa hga
              refine hK.out _ _ ⟨hsta.out.2.1.cell 0 rfl, hsta.out.2.1.cell 1 rfl, hsta.out.2.1.cell 2 rfl, hsta.out.2.1.cell 3 rfl⟩ (fun hHeld => ?_)
              clear hK K
              refine tq (i := 5) (d := 116) ?_
              simp only [sz, ss]
              refine tq (i := 6) (d := 117) ?_
              simp only [sz, ss]
              refine wpAnyH_ready (rs := [7]) (by kernel_rfl) (by simp) ?_
              refine AllReadyH.cons rfl (fun K hK => ?_) AllReadyH.nil
              go_simp
              refine (is_no hxa.out hpa'.out hss.out (by decide) hi2).mono ?_
              rintro e wb ⟨rfl, nb, rfl⟩
              have hxb : Hid (SrAt (wa.drewN nb) g s (q + 2 + tag.size)) := hxa.out
              have hstb : Hid (KmSt (n + 1) w g TB bs tag (.slice av xs.length capv) xs fa (.slice avk ks.length capk) ks (wa.drewN nb)) := KmSt.grown hsta.out grown_drewN
              refine hK.out _ _ ⟨hstb.out.2.1.cell 0 rfl, hstb.out.2.1.cell 1 rfl, hstb.out.2.1.cell 2 rfl, hstb.out.2.1.cell 3 rfl⟩ (fun hHeld => ?_)
              clear hK K
              refine tq (i := 8) (d := 119) ?_
              simp only [sz, ss]
              refine wpAnyH_ready (rs := [9]) (by kernel_rfl) (by simp) ?_
              refine AllReadyH.cons rfl (fun K hK => ?_) AllReadyH.nil
              obtain ⟨_, _, brb, _, _, _, hwTb, _⟩ := id hstb.out
              have r0 := brb.cell 0 rfl
              have r1 := brb.cell 1 rfl
              have r2 := brb.cell 2 rfl
              have r3 := brb.cell 3 rfl
              have fR := brb.unfrozen
              have hneb : ¬ TB = w.heap.size := by omega
              clear brb
              go_simp
              refine hK.out _ _ ⟨(World.cell?_of_block (w := (wa.drewN nb)) (putCells_other [.string tag, .string ⟨#[]⟩, .slice av xs.length capv, .slice avk ks.length capk] (wa.drewN nb) w.heap.size 0 TB hneb)).trans (hstb.out.2.1.cell 0 rfl), (World.cell?_of_block (w := (wa.drewN nb)) (putCells_other [.string tag, .string ⟨#[]⟩, .slice av xs.length capv, .slice avk ks.length capk] (wa.drewN nb) w.heap.size 0 TB hneb)).trans (hstb.out.2.1.cell 1 rfl), (World.cell?_of_block (w := (wa.drewN nb)) (putCells_other [.string tag, .string ⟨#[]⟩, .slice av xs.length capv, .slice avk ks.length capk] (wa.drewN nb) w.heap.size 0 TB hneb)).trans (hstb.out.2.1.cell 2 rfl), (World.cell?_of_block (w := (wa.drewN nb)) (putCells_other [.string tag, .string ⟨#[]⟩, .slice av xs.length capv, .slice avk ks.length capk] (wa.drewN nb) w.heap.size 0 TB hneb)).trans (hstb.out.2.1.cell 3 rfl)⟩ (fun hHeld => ?_)
              clear hK K
              refine tq (i := 10) (d := 5) ?_
              simp only [sz, ss]
              refine wpAnyH_done (by kernel_rfl) ?_ _
              go_wp2_with fail
              obtain ⟨fs, q1, q2, q3, q5⟩ := KmSt.done (w' := putCells (wa.drewN nb) w.heap.size 0 [.string tag, .string ⟨#[]⟩, .slice av xs.length capv, .slice avk ks.length capk]) hstb.out htm.out (fun b h2 => putCells_other _ _ _ _ _ h2) (by rw [putCells_size]; exact Nat.le_refl _) ⟨rfl, rfl, rfl⟩
              clear r0 r1 r2 r3
              have z1 := Box.set (i := 3) (Box.set (i := 2) (Box.set (i := 1) (Box.set (i := 0) hstb.out.2.2.1 (.string tag)) (.string ⟨#[]⟩)) (.slice av xs.length capv)) (.slice avk ks.length capk)
              have z10 := z1.cell 0 rfl
              have z11 := z1.cell 1 rfl
              have z12 := z1.cell 2 rfl
              have z13 := z1.cell 3 rfl
              exact bodyPost_ret (v := .tuple #[.agg (List.toArray [.string tag, .string ⟨#[]⟩, .slice av xs.length capv, .slice avk ks.length capk]), .bool false]) (by simp [results, Tryd.results36, go_sem, z10, z11, z12, z13]) rfl ⟨_, MarkD.mk tag ⟨#[]⟩ xs ks, fs, false, rfl, q1, q2, q3, ⟨_, (putCells_other [.string tag, .string ⟨#[]⟩, .slice av xs.length capv, .slice avk ks.length capk] (wa.drewN nb) w.heap.size 0 g (Nat.ne_of_lt hgl)).trans hxb.out, canM_mk hcan.out, by have := hpq.out; omega, hpa'.out, fun e => (by cases e), fun y c r qq => (by rw [(hdone.out y c r qq).2.1.2] at hi2; cases hi2)⟩, q5⟩
            · skip
              refine wp_region_held_drew (S := fun w' => w'.cell? ⟨TB, 0, none⟩ = some (.string tag) ∧ w'.cell? ⟨TB, 1, none⟩ = some (.string ⟨#[]⟩) ∧ w'.cell? ⟨TB, 2, none⟩ = some (.slice av xs.length capv) ∧ w'.cell? ⟨TB, 3, none⟩ = some (.slice avk ks.length capk)) (by kernel_rfl) ⟨cz0, cz1, cz2, cz3⟩ (fun hHeld => ?_)
              refine tq (i := 0) (d := 111) ?_
              simp only [sz, ss]
              refine tq (i := 1) (d := 112) ?_
              simp only [sz, ss]
              refine tq (i := 2) (d := 113) ?_
              simp only [sz, ss]
              refine tq (i := 3) (d := 114) ?_
              simp only [sz, ss]
              refine wpAnyH_ready (rs := [4]) (by kernel_rfl) (by simp) ?_
              refine AllReadyH.cons rfl (fun K hK => ?_) AllReadyH.nil
              go_simp
              refine (is_yes hxz.out hqz.out hss.out hi1).mono ?_
              rintro e wa ⟨rfl, hxa0, hpa, hga⟩
              have hxa : Hid (SrAt wa g s (q + 2 + tag.size)) := hxa0
              have hpa' : Hid (q + 2 + tag.size ≤ s.size) := hpa
              have hsta : Hid (KmSt (n + 1) w g TB bs tag (.slice av xs.length capv) xs fa (.slice avk ks.length capk) ks wa) := KmSt.grown hstz.out ⟨hga.os, hga.tape, hga.output, hga.size, hga.block⟩
              clear hxa0 hpa hga
              refine hK.out _ _ ⟨hsta.out.2.1.cell 0 rfl, hsta.out.2.1.cell 1 rfl, hsta.out.2.1.cell 2 rfl, hsta.out.2.1.cell 3 rfl⟩ (fun hHeld => ?_)
              clear hK K
              refine tq (i := 5) (d := 116) ?_
              simp only [sz, ss]
              refine tq (i := 6) (d := 117) ?_
              simp only [sz, ss]
              refine wpAnyH_ready (rs := [7]) (by kernel_rfl) (by simp) ?_
              refine AllReadyH.cons rfl (fun K hK => ?_) AllReadyH.nil
              go_simp
              refine (is_yes hxa.out hpa'.out hss.out hi2).mono ?_
              rintro e wb ⟨rfl, hxb0, hpb, hgb⟩
              have hxb : Hid (SrAt wb g s (q + 2 + tag.size + 1)) := hxb0
              have hpb' : Hid (q + 2 + tag.size + 1 ≤ s.size) := hpb
              have hstb : Hid (KmSt (n + 1) w g TB bs tag (.slice av xs.length capv) xs fa (.slice avk ks.length capk) ks wb) := KmSt.grown hsta.out hgb
              clear hxb0 hpb hgb
              refine hK.out _ _ ⟨hstb.out.2.1.cell 0 rfl, hstb.out.2.1.cell 1 rfl, hstb.out.2.1.cell 2 rfl, hstb.out.2.1.cell 3 rfl⟩ (fun hHeld => ?_)
              clear hK K
              refine tq (i := 8) (d := 119) ?_
              simp only [sz, ss]
              refine wpAnyH_ready (rs := [9]) (by kernel_rfl) (by simp) ?_
              refine AllReadyH.cons rfl (fun K hK => ?_) AllReadyH.nil
              obtain ⟨_, _, brb, _, _, _, hwTb, _⟩ := id hstb.out
              have r0 := brb.cell 0 rfl
              have r1 := brb.cell 1 rfl
              have r2 := brb.cell 2 rfl
              have r3 := brb.cell 3 rfl
              have fR := brb.unfrozen
              have hneb : ¬ TB = w.heap.size := by omega
              clear brb
              go_simp
              refine hK.out _ _ ⟨(World.cell?_of_block (w := wb) (putCells_other [.string tag, .string ⟨#[]⟩, .slice av xs.length capv, .slice avk ks.length capk] wb w.heap.size 0 TB hneb)).trans (hstb.out.2.1.cell 0 rfl), (World.cell?_of_block (w := wb) (putCells_other [.string tag, .string ⟨#[]⟩, .slice av xs.length capv, .slice avk ks.length capk] wb w.heap.size 0 TB hneb)).trans (hstb.out.2.1.cell 1 rfl), (World.cell?_of_block (w := wb) (putCells_other [.string tag, .string ⟨#[]⟩, .slice av xs.length capv, .slice avk ks.length capk] wb w.heap.size 0 TB hneb)).trans (hstb.out.2.1.cell 2 rfl), (World.cell?_of_block (w := wb) (putCells_other [.string tag, .string ⟨#[]⟩, .slice av xs.length capv, .slice avk ks.length capk] wb w.heap.size 0 TB hneb)).trans (hstb.out.2.1.cell 3 rfl)⟩ (fun hHeld => ?_)
              clear hK K
              refine tq (i := 10) (d := 5) ?_
              simp only [sz, ss]
              refine wpAnyH_done (by kernel_rfl) ?_ _
              go_wp2_with fail
              obtain ⟨fs, q1, q2, q3, q5⟩ := KmSt.done (w' := putCells wb w.heap.size 0 [.string tag, .string ⟨#[]⟩, .slice av xs.length capv, .slice avk ks.length capk]) hstb.out htm.out (fun b h2 => putCells_other _ _ _ _ _ h2) (by rw [putCells_size]; exact Nat.le_refl _) ⟨rfl, rfl, rfl⟩
              clear r0 r1 r2 r3
              have z1 := Box.set (i := 3) (Box.set (i := 2) (Box.set (i := 1) (Box.set (i := 0) hstb.out.2.2.1 (.string tag)) (.string ⟨#[]⟩)) (.slice av xs.length capv)) (.slice avk ks.length capk)
              have z10 := z1.cell 0 rfl
              have z11 := z1.cell 1 rfl
              have z12 := z1.cell 2 rfl
              have z13 := z1.cell 3 rfl
              exact bodyPost_ret (v := .tuple #[.agg (List.toArray [.string tag, .string ⟨#[]⟩, .slice av xs.length capv, .slice avk ks.length capk]), .bool true]) (by simp [results, Tryd.results36, go_sem, z10, z11, z12, z13]) rfl ⟨_, MarkD.mk tag ⟨#[]⟩ xs ks, fs, true, rfl, q1, q2, q3, ⟨_, (putCells_other [.string tag, .string ⟨#[]⟩, .slice av xs.length capv, .slice avk ks.length capk] wb w.heap.size 0 g (Nat.ne_of_lt hgl)).trans hxb.out, canM_mk hcan.out, by have := hpq.out; omega, hpb'.out, fun _ => by have := hpq.out; omega, fun y c r qq => ⟨rfl, (hdone.out y c r qq).1, (hdone.out y c r qq).2.2⟩⟩, q5⟩
    · have hpre' : Hid (preP [32] (rest s q) = true) := hpre
      refine (is_yes hx.out hq hss.out hpre).mono ?_
      rintro e w3 ⟨rfl, hx3, hq3, hg3⟩
      have hx3' : Hid (SrAt w3 g s (q + 1)) := hx3
      have hq3' : Hid (q + 1 ≤ s.size) := hq3
      have hst3 : Hid (KaSt w g TB base tag (.slice av xs.length capv) xs w3) := KaSt.grown hst.out hg3
      clear hx3 hq3 hg3 hst hx hpre
      go_wp2_with fail
      refine (word_any hx3'.out hq3'.out hss.out).mono ?_
      rintro e w4 ⟨⟨nm, rfl, hnm⟩, hx4, hg4⟩
      have hnm' : Hid (nm.data.toList = lw (rest s (q + 1))) := hnm
      have hz3 : base ≤ w3.heap.size := hst3.out.2.2.2.2.1
      have hw3 : w.heap.size ≤ w3.heap.size := hst3.out.2.2.2.1.size
      have hz4 : w3.heap.size ≤ w4.heap.size := hg4.size
      have hlw := lw_len_le (rest s (q + 1))
      rw [rest_len, ← hnm, bd_len] at hlw
      have hqn : Hid (q + 1 + nm.size ≤ s.size) := by show _ ≤ _; have := hq3'.out; omega
      have hbA : Below w4.heap.size w4 (w4.alloc (.cells #[.string nm, .string ⟨#[]⟩] 70)) := (Below.refl _ _).alloc (Nat.le_refl _) _
      have hx5 : Hid (SrAt (w4.alloc (.cells #[.string nm, .string ⟨#[]⟩] 70)) g s (q + 1 + nm.size)) := by rw [← hnm, bd_len] at hx4; exact hx4.below hbA
      have hg35 : Hid (w3.grownBy (w4.alloc (.cells #[.string nm, .string ⟨#[]⟩] 70)) (some g)) := hg4.trans (grown_of_below hbA _)
      have bA5 : Hid (Box (w4.alloc (.cells #[.string nm, .string ⟨#[]⟩] 70)) w4.heap.size [.string nm, .string ⟨#[]⟩] 70) := Box.new w4 _ _
      generalize hA : w4.heap.size = A at bA5
      have hgA : g ≠ A := by omega
      have hAz : w3.heap.size ≤ A := by omega
      clear hnm hx4 hg4 hbA hlw
      go_wp2_with fail
      clear hA
      generalize w4.alloc (.cells #[.string nm, .string ⟨#[]⟩] 70) = w5 at *
      cases hp2a : preP [61, 34] (rest s (q + 1 + nm.size))
      · refine (is_no hx5.out hqn.out hss.out (by decide) hp2a).mono ?_
        rintro e w6 ⟨rfl, n6, rfl⟩
        have hno : Hid (NoM (n + 1) s p) := (by cases hnb : nameB (lw (rest s (q + 1))) with | true => exact noM_att hat.out hpre'.out (rdAtt_b hnm'.out hnb hp2a) | false => exact noM_att hat.out hpre'.out (rdAtt_a hnb))
        have hk6 : Hid (KaSt w g TB base tag (.slice av xs.length capv) xs (w5.drewN n6)) := KaSt.grown hst3.out (hg35.out.trans grown_drewN)
        have hx6 : Hid (SrAt (w5.drewN n6) g s (q + 1 + nm.size)) := hx5.out
        clear hx5 hg35 bA5 hp2a
        generalize w5.drewN n6 = w6 at *
        obtain ⟨_, bT6, br6, _, _, _, hwT6, _⟩ := id hk6.out
        have r0 := br6.cell 0 rfl
        have r1 := br6.cell 1 rfl
        have r2 := br6.cell 2 rfl
        have r3 := br6.cell 3 rfl
        have fR := br6.unfrozen
        have c0 := bT6.cell 0 rfl
        have c1 := bT6.cell 1 rfl
        have c2 := bT6.cell 2 rfl
        have c3 := bT6.cell 3 rfl
        have hne : ¬ TB = w.heap.size := by omega
        clear bT6
        go_wp2_with fail
        have z1 := Box.set (i := 3) (Box.set (i := 2) (Box.set (i := 1) (Box.set (i := 0) br6 (.string tag)) (.string ⟨#[]⟩)) (.slice av xs.length capv)) (.slice none 0 0)
        clear r0 r1 r2 r3 c0 c1 c2 c3
        have r0 := z1.cell 0 rfl
        have r1 := z1.cell 1 rfl
        have r2 := z1.cell 2 rfl
        have r3 := z1.cell 3 rfl
        obtain ⟨fs, q1, q2, q3, q5⟩ := KaSt.done (n := n + 1) (w' := putCells w6 w.heap.size 0 [.string tag, .string ⟨#[]⟩, .slice av xs.length capv, .slice none 0 0]) hk6.out htm.out (fun b h2 => putCells_other _ _ _ _ _ h2) (by rw [putCells_size]; exact Nat.le_refl _) ⟨rfl, rfl, rfl⟩
        exact bodyPost_ret (v := .tuple #[.agg (List.toArray [.string tag, .string ⟨#[]⟩, .slice av xs.length capv, .slice none 0 0]), .bool false]) (by simp [results, Tryd.results36, go_sem, r0, r1, r2, r3]) rfl ⟨_, MarkD.mk tag ⟨#[]⟩ xs [], fs, false, rfl, q1, q2, q3, ⟨_, (putCells_other [.string tag, .string ⟨#[]⟩, .slice av xs.length capv, .slice none 0 0] w6 w.heap.size 0 g (Nat.ne_of_lt hgl)).trans hx6.out, canM_mk (by simp), by have := hpq.out; omega, hqn.out, fun e => (by cases e), fun y c r qq => (hno.out y c r qq).elim⟩, q5⟩
      refine (is_yes hx5.out hqn.out hss.out hp2a).mono ?_
      rintro e w6 ⟨rfl, hx6, hq6, hg6⟩
      have hx6' : Hid (SrAt w6 g s (q + 1 + nm.size + 2)) := hx6
      have hq6' : Hid (q + 1 + nm.size + 2 ≤ s.size) := hq6
      have hg36 : Hid (w3.grownBy w6 (some g)) := hg35.out.trans hg6
      have bA6 : Hid (Box w6 A [.string nm, .string ⟨#[]⟩] 70) := box_grown bA5.out (Ne.symm hgA) hg6
      have hp2' : Hid (preP [61, 34] (rest s (q + 1 + nm.size)) = true) := hp2a
      clear hx6 hq6 hg6 hp2a hx5 hg35 bA5
      go_wp2_with fail
      refine (until_any 34 hx6'.out hq6'.out hss.out).mono ?_
      rintro e w7 ⟨⟨u, rfl, hu⟩, hx7, hg7⟩
      have hul := upto_len 34 (rest s (q + 1 + nm.size + 2))
      have hul2 := hul
      rw [rest_len] at hul
      rw [rest_len, ← hu, bd_len] at hul2
      have huz : Hid (u.size ≤ 1048576) := by show _ ≤ _; have := hss.out; omega
      have hq7 : Hid (q + 1 + nm.size + 2 + (upto 34 (rest s (q + 1 + nm.size + 2))).length ≤ s.size) := by show _ ≤ _; have := hq6'.out; omega
      have hu' : Hid (u.data.toList = upto 34 (rest s (q + 1 + nm.size + 2))) := hu
      have hx7' : Hid (SrAt w7 g s (q + 1 + nm.size + 2 + (upto 34 (rest s (q + 1 + nm.size + 2))).length)) := hx7
      have hg37 : Hid (w3.grownBy w7 (some g)) := hg36.out.trans hg7
      have bA7 : Hid (Box w7 A [.string nm, .string ⟨#[]⟩] 70) := box_grown bA6.out (Ne.symm hgA) hg7
      clear hx7 hg7 hg36 bA6 hx6' hu hul hul2
      go_wp2_with fail
      refine (specUnescaped_any u _ huz.out).mono ?_
      rintro e w8 ⟨rfl, hb8⟩
      have hx8 : Hid (SrAt w8 g s (q + 1 + nm.size + 2 + (upto 34 (rest s (q + 1 + nm.size + 2))).length)) := hx7'.out.below hb8
      have hg38 : Hid (w3.grownBy w8 (some g)) := hg37.out.trans (grown_of_below hb8 _)
      have bA8 : Hid (Box w8 A [.string nm, .string ⟨#[]⟩] 70) := bA7.out.below hb8 bA7.out.lt
      clear hx7' hg37 bA7 hb8
      have a1 := bA8.out.cell 1 rfl
      have fA := bA8.out.unfrozen 1
      cases huv : unL u.data.toList with
      | none =>
        have hno : Hid (NoM (n + 1) s p) := (by cases hnb : nameB (lw (rest s (q + 1))) with | true => exact noM_att hat.out hpre'.out (rdAtt_c hnm'.out hnb hp2'.out (by rw [← hu'.out]; exact huv)) | false => exact noM_att hat.out hpre'.out (rdAtt_a hnb))
        rw [show unV none = .tuple #[.string ⟨#[]⟩, .bool false] from rfl]
        clear huv
        have hg39 : Hid (w3.grownBy (w8.setCell ⟨A, 1, none⟩ (.string ⟨#[]⟩)) (some g)) := grown_new hAz hg38.out
        have hx9 : Hid (SrAt (w8.setCell ⟨A, 1, none⟩ (.string ⟨#[]⟩)) g s (q + 1 + nm.size + 2 + (upto 34 (rest s (q + 1 + nm.size + 2))).length)) := Box.other hx8.out hgA _
        have hk8 : Hid (KaSt w g TB base tag (.slice av xs.length capv) xs w8) := KaSt.grown hst3.out hg38.out
        have hk9 : Hid (KaSt w g TB base tag (.slice av xs.length capv) xs (w8.setCell ⟨A, 1, none⟩ (.string ⟨#[]⟩))) := KaSt.grown hst3.out hg39.out
        have hAT : ¬ A = TB := by omega
        have hTA : ¬ TB = A := by omega
        have hAw : ¬ A = w.heap.size := by omega
        have hwA : ¬ w.heap.size = A := by omega
        clear hx8 hg38 bA8 hg39
        obtain ⟨_, bT6, br6, _, _, _, hwT6, _⟩ := id hk8.out
        have r0 := br6.cell 0 rfl
        have r1 := br6.cell 1 rfl
        have r2 := br6.cell 2 rfl
        have r3 := br6.cell 3 rfl
        have fR := br6.unfrozen
        have c0 := bT6.cell 0 rfl
        have c1 := bT6.cell 1 rfl
        have c2 := bT6.cell 2 rfl
        have c3 := bT6.cell 3 rfl
        have hne : ¬ TB = w.heap.size := by omega
        have br7 : Hid (Box (w8.setCell ⟨A, 1, none⟩ (.string ⟨#[]⟩)) w.heap.size zM4 27) := hk9.out.2.2.1
        clear bT6 br6
        go_wp2_with fail
        clear r0 r1 r2 r3 c0 c1 c2 c3 fR
        have z1 := Box.set (i := 3) (Box.set (i := 2) (Box.set (i := 1) (Box.set (i := 0) br7.out (.string tag)) (.string ⟨#[]⟩)) (.slice av xs.length capv)) (.slice none 0 0)
        have r0 := z1.cell 0 rfl
        have r1 := z1.cell 1 rfl
        have r2 := z1.cell 2 rfl
        have r3 := z1.cell 3 rfl
        obtain ⟨fs, q1, q2, q3, q5⟩ := KaSt.done (n := n + 1) (w' := putCells (w8.setCell ⟨A, 1, none⟩ (.string ⟨#[]⟩)) w.heap.size 0 [.string tag, .string ⟨#[]⟩, .slice av xs.length capv, .slice none 0 0]) hk9.out htm.out (fun b h2 => putCells_other _ _ _ _ _ h2) (by rw [putCells_size]; exact Nat.le_refl _) ⟨rfl, rfl, rfl⟩
        exact bodyPost_ret (v := .tuple #[.agg (List.toArray [.string tag, .string ⟨#[]⟩, .slice av xs.length capv, .slice none 0 0]), .bool false]) (by simp [results, Tryd.results36, go_sem, r0, r1, r2, r3]) rfl ⟨_, MarkD.mk tag ⟨#[]⟩ xs [], fs, false, rfl, q1, q2, q3, ⟨_, (putCells_other [.string tag, .string ⟨#[]⟩, .slice av xs.length capv, .slice none 0 0] (w8.setCell ⟨A, 1, none⟩ (.string ⟨#[]⟩)) w.heap.size 0 g (Nat.ne_of_lt hgl)).trans hx9.out, canM_mk (by simp), by have := hpq.out; omega, hq7.out, fun e => (by cases e), fun y c r qq => (hno.out y c r qq).elim⟩, q5⟩
      | some l =>
        have htl : l.length ≤ u.size := by have := unL_length huv; rwa [bd_len] at this
        have huv' : Hid (unL (upto 34 (rest s (q + 1 + nm.size + 2))) = some l) := by show _ = _; rw [← hu'.out]; exact huv
        rw [show unV (some l) = .tuple #[.string ⟨l.toArray⟩, .bool true] from rfl]
        clear huv
        obtain ⟨vl, htx0⟩ : ∃ tx : ByteArray, tx = ⟨l.toArray⟩ := ⟨_, rfl⟩
        have hte : Hid (l = vl.data.toList) := by show _ = _; rw [htx0]
        have hvz : Hid (vl.size ≤ 1048576) := by show _ ≤ _; have h1 := huz.out; have h2 := congrArg List.length hte.out; rw [bd_len] at h2; omega
        have hvl' : Hid (unL (upto 34 (rest s (q + 1 + nm.size + 2))) = some vl.data.toList) := by show _ = _; rw [← hte.out]; exact huv'.out
        rw [← htx0]
        clear htx0 htl huv' hte
        have hg39 : Hid (w3.grownBy (w8.setCell ⟨A, 1, none⟩ (.string vl)) (some g)) := grown_new hAz hg38.out
        have hx9 : Hid (SrAt (w8.setCell ⟨A, 1, none⟩ (.string vl)) g s (q + 1 + nm.size + 2 + (upto 34 (rest s (q + 1 + nm.size + 2))).length)) := Box.other hx8.out hgA _
        have bA9 : Hid (Box (w8.setCell ⟨A, 1, none⟩ (.string vl)) A [.string nm, .string vl] 70) := Box.set (i := 1) bA8.out _
        clear hx8 hg38 bA8
        go_wp2_with fail
        clear a1 fA
        generalize w8.setCell ⟨A, 1, none⟩ (.string vl) = w7 at *
        cases hp4 : preP [34] (rest s (q + 1 + nm.size + 2 + (upto 34 (rest s (q + 1 + nm.size + 2))).length))
        · refine (is_no hx9.out hq7.out hss.out (by decide) hp4).mono ?_
          rintro e wb ⟨rfl, nb, rfl⟩
          have hno : Hid (NoM (n + 1) s p) := (by cases hnb : nameB (lw (rest s (q + 1))) with | true => exact noM_att hat.out hpre'.out (rdAtt_d hnm'.out hnb hp2'.out hvl'.out hp4) | false => exact noM_att hat.out hpre'.out (rdAtt_a hnb))
          have hk6 : Hid (KaSt w g TB base tag (.slice av xs.length capv) xs (w7.drewN nb)) := KaSt.grown (KaSt.grown hst3.out hg39.out) grown_drewN
          have hx6 : Hid (SrAt (w7.drewN nb) g s (q + 1 + nm.size + 2 + (upto 34 (rest s (q + 1 + nm.size + 2))).length)) := hx9.out
          clear hx9 hg39 bA9 hp4
          generalize w7.drewN nb = w6 at *
          obtain ⟨_, bT6, br6, _, _, _, hwT6, _⟩ := id hk6.out
          have r0 := br6.cell 0 rfl
          have r1 := br6.cell 1 rfl
          have r2 := br6.cell 2 rfl
          have r3 := br6.cell 3 rfl
          have fR := br6.unfrozen
          have c0 := bT6.cell 0 rfl
          have c1 := bT6.cell 1 rfl
          have c2 := bT6.cell 2 rfl
          have c3 := bT6.cell 3 rfl
          have hne : ¬ TB = w.heap.size := by omega
          clear bT6
          go_wp2_with fail
          have z1 := Box.set (i := 3) (Box.set (i := 2) (Box.set (i := 1) (Box.set (i := 0) br6 (.string tag)) (.string ⟨#[]⟩)) (.slice av xs.length capv)) (.slice none 0 0)
          clear r0 r1 r2 r3 c0 c1 c2 c3
          have r0 := z1.cell 0 rfl
          have r1 := z1.cell 1 rfl
          have r2 := z1.cell 2 rfl
          have r3 := z1.cell 3 rfl
          obtain ⟨fs, q1, q2, q3, q5⟩ := KaSt.done (n := n + 1) (w' := putCells w6 w.heap.size 0 [.string tag, .string ⟨#[]⟩, .slice av xs.length capv, .slice none 0 0]) hk6.out htm.out (fun b h2 => putCells_other _ _ _ _ _ h2) (by rw [putCells_size]; exact Nat.le_refl _) ⟨rfl, rfl, rfl⟩
          exact bodyPost_ret (v := .tuple #[.agg (List.toArray [.string tag, .string ⟨#[]⟩, .slice av xs.length capv, .slice none 0 0]), .bool false]) (by simp [results, Tryd.results36, go_sem, r0, r1, r2, r3]) rfl ⟨_, MarkD.mk tag ⟨#[]⟩ xs [], fs, false, rfl, q1, q2, q3, ⟨_, (putCells_other [.string tag, .string ⟨#[]⟩, .slice av xs.length capv, .slice none 0 0] w6 w.heap.size 0 g (Nat.ne_of_lt hgl)).trans hx6.out, canM_mk (by simp), by have := hpq.out; omega, hq7.out, fun e => (by cases e), fun y c r qq => (hno.out y c r qq).elim⟩, q5⟩
        refine (is_yes hx9.out hq7.out hss.out hp4).mono ?_
        rintro e wb ⟨rfl, hxb0, hqb0, hgb0⟩
        have hat9 : Hid (AttS n tag (xs ++ [⟨nm, vl⟩]) s p (q + 1 + nm.size + 2 + (upto 34 (rest s (q + 1 + nm.size + 2))).length + 1)) := (by
          cases hnb : nameB (lw (rest s (q + 1))) with
          | true => exact AttS.more hat.out hpre'.out (rdAtt_e hnm'.out hnb hp2'.out hvl'.out hp4)
          | false => exact AttS.void (noM_att hat.out hpre'.out (rdAtt_a hnb)))
        have hxb : Hid (SrAt wb g s (q + 1 + nm.size + 2 + (upto 34 (rest s (q + 1 + nm.size + 2))).length + 1)) := hxb0
        have hqb : Hid (q + 1 + nm.size + 2 + (upto 34 (rest s (q + 1 + nm.size + 2))).length + 1 ≤ s.size) := hqb0
        have hlt9 : Hid (q < q + 1 + nm.size + 2 + (upto 34 (rest s (q + 1 + nm.size + 2))).length + 1) := by show _ < _; omega
        have hstb : Hid (KaSt w g TB base tag (.slice av xs.length capv) xs wb) := KaSt.grown (KaSt.grown hst3.out hg39.out) hgb0
        have bAb : Hid (Box wb A [.string nm, .string vl] 70) := box_grown bA9.out (Ne.symm hgA) hgb0
        have hnz : Hid (nm.size ≤ 1048576) := by show _ ≤ _; have := hqn.out; have := hss.out; omega
        clear hxb0 hqb0 hgb0 hx9 hg39 bA9 hp4 hvl' hp2' hq7 hqn hst3
        generalize q + 1 + nm.size + 2 + (upto 34 (rest s (q + 1 + nm.size + 2))).length + 1 = q9 at hat9 hxb hqb hlt9
        have a0 := bAb.out.cell 0 rfl
        have a1 := bAb.out.cell 1 rfl
        have cT2 := hstb.out.2.1.cell 2 rfl
        obtain ⟨⟨bss, css, hgr1⟩, _, _, _, hbs6, _⟩ := id hstb.out
        have hgr : Hid (GrowOwn 70 2 AttrOwn base wb (.slice av xs.length capv) xs bss css) := hgr1
        have hbs : Hid (base ≤ wb.heap.size) := hbs6
        clear hgr1 hbs6
        have nb : Hid (Box (wb.alloc (.cells #[.string nm, .string vl] 70)) wb.heap.size [.string nm, .string vl] 70) := Box.new wb _ _
        have hox : Hid (AttrOwn (wb.alloc (.cells #[.string nm, .string vl] 70)) [.string nm, .string vl] ⟨nm, vl⟩ []) := ⟨⟨rfl, by have := hnz.out; show nm.size ≤ maxLen; unfold maxLen; omega, by have := hvz.out; show vl.size ≤ maxLen; unfold maxLen; omega, trivial⟩, rfl⟩
        have hs7 : Hid (wb.heap.size ≤ (wb.alloc (.cells #[.string nm, .string vl] 70)).heap.size) := by show _ ≤ _; simp
        have hk7 : Hid (∀ b, base ≤ b → b < wb.heap.size → (wb.alloc (.cells #[.string nm, .string vl] 70)).heap[b]? = wb.heap[b]?) := fun b h1 h2 => Below.heap_alloc _ _ _ h2
        have hb7 : Hid (Below wb.heap.size wb (wb.alloc (.cells #[.string nm, .string vl] 70))) := (Below.refl _ _).alloc (Nat.le_refl _) _
        have bT7 : Hid (Box (wb.alloc (.cells #[.string nm, .string vl] 70)) TB [.string tag, .string ⟨#[]⟩, .slice av xs.length capv, .slice none 0 0] 27) := hstb.out.2.1.alloc _
        go_wp2_with (at_builtin; refine wpList_append_growK AttrOwn_stays rfl _ _ 24 rfl base iA _ 32 Tryd.underlying24 hiA.out heA.out.1 heA.out.2.2 heA.out.2.1 rfl (by decide) (y := ⟨nm, vl⟩) (fs := []) (cs := [.string nm, .string vl]) (v := .slice av xs.length capv) rfl hgr.out hs7.out hk7.out hbs.out _ _ rfl rfl (by intro i u hu; match i, hu with | 0, hu => (simp at hu; subst hu; exact nb.out.cell 0 rfl) | 1, hu => (simp at hu; subst hu; exact nb.out.cell 1 rfl) | i + 2, hu => simp at hu) (by intro u hu; simp at hu; rcases hu with rfl | rfl <;> rfl) hox.out List.nodup_nil (by simp) (by simp) (by have := hxl.out; have := hss.out; unfold maxLen; omega) (by have := hxl.out; have := hss.out; omega) ?_; intro g3 capg w8 hgr8 hg8 hb8; have hgr8' : Hid (GrowOwn 70 2 AttrOwn base w8 (.slice (some ⟨g3, 0, none⟩) (xs.length + 1) capg) (xs ++ [⟨nm, vl⟩]) _ _) := hgr8; have hg8' : Hid (World.grownBy _ w8 (Value.ownBlock (.slice av xs.length capv))) := hg8; have bT8 : Hid (Box w8 TB [.string tag, .string ⟨#[]⟩, .slice av xs.length capv, .slice none 0 0] 27) := box_low hb8 hTb bT7.out; have cT8 := bT8.out.cell 2 rfl; have fT8 := bT8.out.unfrozen 2; clear hgr8 hg8 hb8)
        obtain ⟨hst9, hgg9⟩ := KaSt.step2 hstb.out hb7.out hgr8'.out hg8'.out
        have hst9' : Hid (KaSt w g TB base tag _ _ _) := hst9
        have hx9 : Hid (SrAt (w8.setCell ⟨TB, 2, none⟩ (.slice (some ⟨g3, 0, none⟩) (xs.length + 1) capg)) g s q9) := hgg9.trans hxb.out
        clear hst9 hgg9
        go_roundw
        case rel => exact ⟨q9, _, xs ++ [⟨nm, vl⟩], by have := hlt9.out; omega, hqb.out, hst9', hx9, hat9, by show _ ≤ _; have := hxl.out; have := hlt9.out; simp; omega⟩
        case measure => rw [hpos.out, posW_at hx9.out]; have := hlt9.out; have := hqb.out; omega
theorem smF_all : ∀ n, SmF n := by
  intro n
  induction n with
  | zero => exact smF_zero
  | succ n ih => exact smF_of n ih
end Go.Proofs.YtlcddndpfhdakaaDoor
