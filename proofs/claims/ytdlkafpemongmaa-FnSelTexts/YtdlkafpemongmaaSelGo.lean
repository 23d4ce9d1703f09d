/- FnSelTexts: walked. -/
import Derived.Test.YtdlkafpemongmaaSelRSpec
import Derived.Test.YtdlkafpemongmaaDrawSel
import Derived.Test.YtdlkafpemongmaaDrawHurt
namespace Go.Proofs.Ytdlkafpemongmaa
open Go.RowKit Go.Deep
theorem reads_same {l m : List StepD} {b : Bool} (h : ReadsS (selT l) m b) : b = selB l := by
  rcases (by cases selB l <;> simp : selB l = false ∨ selB l = true) with hs | hs
  · have e : selT l = ⟨#[]⟩ := selT_no (by rw [hs]; simp)
    rw [hs]
    exact ((h.one (spec_empty e)).2)
  · rw [hs]
    exact (h.one (Or.inl ⟨rfl, hs, selT_yes hs⟩)).2
theorem ReadsS.text {s : ByteArray} {m : List StepD} (h : ReadsS s m true) : selT m = s := by
  rcases h with ⟨_, h1, h2⟩ | ⟨h, _⟩
  · exact ba_of (by rw [selT_yes h1, h2])
  · cases h
theorem selT_small (l : List StepD) : (selT l).size ≤ 42 := by
  rcases (by cases selB l <;> simp : selB l = false ∨ selB l = true) with hs | hs
  · rw [selT_no (by rw [hs]; simp)]; decide
  · rw [← bd_len, selT_yes hs]; exact textS_small hs
set_option maxHeartbeats 1000000 in
theorem drawSelOk_any {w : World} {a : Option Addr} {n cap : Nat} (h : CodeAt w a n) :
    Calls Try.prog 17 #[.slice a n cap] w fun e w' => (∃ (v : Value) (l : List StepD), e = .returned v ∧ SeqAt 2 StepAt w' 0 v l) ∧ Below w.heap.size w w' := by
  have h' : Hid (CodeAt w a n) := h
  clear h
  go_enter Try.func17, Try.ntmps17
  go_wp2_with fail
  refine (open_any h'.out).mono ?_
  rintro e w1 ⟨g, rfl, hg, hr1, hb1⟩
  have hr1' : Hid (RdAt w1 g a n cap) := hr1
  have hB1 : Hid (Below w.heap.size w w1) := hb1
  clear hr1 hb1
  go_wp2_with fail
  refine (sel_any hr1'.out).mono ?_
  rintro e w2 ⟨⟨ss, r, cp, rfl, hrow, hl, hok⟩, _, hg2⟩
  have hs : Hid (SeqAt 2 StepAt w2 0 (.slice (some ⟨r, 0, none⟩) ss.length cp) ss) := (seq_of_rowS hrow (by omega) hok).keep StepAt_stays (.lower (Nat.zero_le _))
  have hB2 : Hid (Below w.heap.size w w2) := below_grown hB1.out hg hg2
  clear hrow hg2
  go_wp2_with fail
  go_ret
  exact ⟨⟨_, ss, rfl, hs.out⟩, hB2.out⟩
set_option maxHeartbeats 1000000 in
theorem drawSelText_any {w : World} {a : Option Addr} {n cap : Nat} (h : CodeAt w a n) :
    Calls Try.prog 6 #[.slice a n cap] w fun e w' => (∃ (v : Value) (l : List StepD), e = .returned v ∧ SeqAt 2 StepAt w' 0 v l) ∧ Below w.heap.size w w' := by
  go_enter Try.func6, Try.ntmps6
  go_wp2_with fail
  refine (drawSelOk_any h).mono ?_
  rintro e w1 ⟨⟨v, l, rfl, hs⟩, hb1⟩
  have hs' : Hid (SeqAt 2 StepAt w1 0 v l) := hs
  clear hs
  go_wp2_with fail
  go_ret
  exact ⟨⟨v, l, rfl, hs'.out⟩, hb1⟩
def more5 : List ByteArray := [⟨#[32]⟩, ⟨#[32, 62]⟩, ⟨#[32, 62, 32, 62]⟩, ⟨#[32, 42]⟩, ⟨#[42, 32]⟩]
set_option maxHeartbeats 2000000 in
theorem drawReadSel_any {w : World} {a : Option Addr} {n cap : Nat} (h : CodeAt w a n) :
    Calls Try.prog 12 #[.slice a n cap] w fun e w' => (∃ s : ByteArray, e = .returned (.string s) ∧ s.size ≤ 1048576) ∧ Below w.heap.size w w' := by
  have h' : Hid (CodeAt w a n) := h
  clear h
  go_enter Try.func12, Try.ntmps12
  go_wp2_with fail
  refine (open_any h'.out).mono ?_
  rintro e w1 ⟨g, rfl, hg, hr1, hb1⟩
  have hr1' : Hid (RdAt w1 g a n cap) := hr1
  have hB1 : Hid (Below w.heap.size w w1) := hb1
  have hlt1 := hr1.lt
  clear hr1 hb1
  go_wp2_with fail
  refine (sel_any hr1'.out).mono ?_
  rintro e w2 ⟨⟨ss, r, cp, rfl, hrow, hl, hok⟩, hr2, hg2⟩
  have hs : Hid (SeqAt 2 StepAt w2 0 (.slice (some ⟨r, 0, none⟩) ss.length cp) ss) := (seq_of_rowS hrow (by omega) hok).keep StepAt_stays (.lower (Nat.zero_le _))
  have hr2' : Hid (RdAt w2 g a n cap) := hr2
  have hB2 : Hid (Below w.heap.size w w2) := below_grown hB1.out hg hg2
  have hz2 : w1.heap.size ≤ w2.heap.size := hg2.size
  clear hrow hg2 hr2
  go_wp2_with fail
  refine (specSelText_any hs.out).mono ?_
  rintro e w3 ⟨rfl, hb3⟩
  have hB3 : Hid (Below w.heap.size w w3) := hB2.out.trans (hb3.mono hB2.out.size)
  have hr3 : Hid (RdAt w3 g a n cap) := hr2'.out.below hb3
  have hz3 : w2.heap.size ≤ w3.heap.size := hb3.size
  have hts : Hid ((selT ss).size ≤ 42) := selT_small ss
  generalize selT ss = t at *
  clear hb3 hs hr2' hB2
  go_wp2_with fail
  refine (once_any hr3.out 3 (by omega) (by omega)).mono ?_
  rintro e w4 ⟨v, rfl, hr4, hg4⟩
  have hr4' : Hid (RdAt w4 g a n cap) := hr4
  have hB4 : Hid (Below w.heap.size w w4) := below_grown hB3.out hg hg4
  have hz4 : w3.heap.size ≤ w4.heap.size := hg4.size
  clear hr4 hg4 hr3 hB3
  cases v with
  | false =>
    go_wp2_with fail
    refine (hurt_any hr4'.out t (by have := hts.out; omega)).mono ?_
    rintro e w5 ⟨u, rfl, hu, _, hg5⟩
    have hB5 : Hid (Below w.heap.size w w5) := below_grown hB4.out hg hg5
    have hus : Hid (u.size ≤ 1048576) := by show _ ≤ _; have := hts.out; omega
    clear hu hg5
    go_wp2_with fail
    go_ret
    exact ⟨⟨u, rfl, hus.out⟩, hB5.out⟩
  | true =>
    have hbB : Hid (Below w4.heap.size w4 (w4.alloc (.cells (more5.map Value.string).toArray 9))) := (Below.refl _ _).alloc (Nat.le_refl _) _
    have bx0 : Hid (Box (w4.alloc (.cells (more5.map Value.string).toArray 9)) w4.heap.size (more5.map Value.string) 9) := Box.new w4 _ _
    go_wp2_with fail
    refine (below_any (RdAt.below hr4'.out hbB.out) 5 (by omega) (by omega)).mono ?_
    rintro e w5 ⟨u, rfl, u0, u1, hr5, hg5⟩
    have hB5 : Hid (Below w.heap.size w w5) := below_grown (hB4.out.alloc hB4.out.size _) hg hg5
    have bx1 : Hid (Box w5 w4.heap.size (more5.map Value.string) 9) := box_other bx0.out (by omega) hg5
    obtain ⟨k, rfl⟩ := Int.eq_ofNat_of_zero_le u0
    have hk : k < more5.length := by show k < 5; omega
    have hc := box_str bx1.out k hk
    have hsz : Hid (more5[k].size ≤ 4) := mem_le (by decide) k hk
    generalize more5[k] = tag at hc hsz
    have hk5 : (k : Int) < 5 := by omega
    have hcat : ¬ 9223372036854775807 < t.size + tag.size := by have := hts.out; have := hsz.out; omega
    clear hr5 hg5 bx0 bx1 hbB
    go_wp2_with fail
    go_ret
    exact ⟨⟨_, rfl, by rw [ByteArray.size_append]; have := hts.out; have := hsz.out; omega⟩, hB5.out⟩
set_option maxHeartbeats 1000000 in
theorem big_any {a : Option Addr} {n cap : Nat} (w : World) : Calls Try.prog 5 #[.slice a n cap] w fun e w' => e = .returned (.bool (decide ((1048576 : Int) < (n : Int)))) ∧ w' = w := by
  go_enter Try.func5, Try.ntmps5
  go_wp2_with fail
  go_ret
  exact ⟨rfl, rfl⟩
set_option maxRecDepth 100000 in
set_option maxHeartbeats 8000000 in
theorem fnSelTexts.walk {a : Option Addr} {n cap : Nat} (w : World) (_ : n ≤ maxLen) (hcode : n ≤ 1048576 → CodeAt w a n) :
    Calls Try.prog 3 #[.slice a n cap] w fun e w' => e = .returned (.bool true) ∧ Below w.heap.size w w' := by
  by_cases hbig : (1048576 : Int) < (n : Int)
  · go_enter Try.func3, Try.ntmps3
    go_wp2_with (go_at_call 5; refine (big_any _).mono ?_; rintro e w' ⟨rfl, rfl⟩; rw [decide_eq_true hbig])
    go_ret
    exact ⟨rfl, Below.refl _ _⟩
  have h' : Hid (CodeAt w a n) := hcode (by omega)
  clear hcode
  go_enter Try.func3, Try.ntmps3
  go_wp2_with (go_at_call 5; refine (big_any _).mono ?_; rintro e w' ⟨rfl, e9⟩; have e10 := e9.symm; clear e9; subst e10; rw [decide_eq_false hbig])
  refine (drawSelText_any h'.out).mono ?_
  rintro e w1 ⟨⟨v, l, rfl, hs1⟩, hb1⟩
  have hs1' : Hid (SeqAt 2 StepAt w1 0 v l) := hs1
  have hB1 : Hid (Below w.heap.size w w1) := hb1
  clear hs1 hb1 hbig
  go_wp2_with fail
  refine (implSelText_any hs1'.out).mono ?_
  rintro e w2 ⟨rfl, hb2⟩
  have hs2 : Hid (SeqAt 2 StepAt w2 0 v l) := hs1'.out.below StepAt_stays hb2
  have hB2 : Hid (Below w.heap.size w w2) := hB1.out.trans (hb2.mono hB1.out.size)
  clear hb2 hs1' hB1
  go_wp2_with fail
  refine (implReadSel_any (s := selT l) (by have := selT_small l; omega)).mono ?_
  rintro e w3 ⟨b3, l3, c3, m, fs, is, rfl, hom, _, _, hRM0, hb3⟩
  have hRM : Hid (ReadsS (selT l) m is) := hRM0
  have hm3 : Hid (SeqAt 2 StepAt w3 0 (.slice b3 l3 c3) m) := hom.at StepOwn_at (fun _ _ => Nat.zero_le _)
  have hs3 : Hid (SeqAt 2 StepAt w3 0 v l) := hs2.out.below StepAt_stays hb3
  have hB3 : Hid (Below w.heap.size w w3) := hB2.out.trans (hb3.mono hB2.out.size)
  have his : Hid (is = selB l) := reads_same hRM0
  clear hb3 hs2 hB2 hom hRM0
  go_wp2_with fail
  refine (specSelText_any hs3.out).mono ?_
  rintro e w4 ⟨rfl, hb4⟩
  have hm4 : Hid (SeqAt 2 StepAt w4 0 (.slice b3 l3 c3) m) := hm3.out.below StepAt_stays hb4
  have hs4 : Hid (SeqAt 2 StepAt w4 0 v l) := hs3.out.below StepAt_stays hb4
  have hB4 : Hid (Below w.heap.size w w4) := hB3.out.trans (hb4.mono hB3.out.size)
  clear hb4 hs3 hB3 hm3
  go_wp2_with fail
  refine (implSelOk_any hs4.out).mono ?_
  rintro e w5 ⟨rfl, hb5⟩
  rw [his.out]
  have hm5 : Hid (SeqAt 2 StepAt w5 0 (.slice b3 l3 c3) m) := hm4.out.below StepAt_stays hb5
  have hs5 : Hid (SeqAt 2 StepAt w5 0 v l) := hs4.out.below StepAt_stays hb5
  have hB5 : Hid (Below w.heap.size w w5) := hB4.out.trans (hb5.mono hB4.out.size)
  clear hb5 hs4 hB4 hm4
  rcases (by cases selB l <;> simp : selB l = false ∨ selB l = true) with hsb | hsb
  all_goals
    rw [hsb]
    go_wp2_with fail
    refine (implSelOk_any hs5.out).mono ?_
    rintro e w6 ⟨rfl, hb6⟩
    rw [hsb]
    have hm6 : Hid (SeqAt 2 StepAt w6 0 (.slice b3 l3 c3) m) := hm5.out.below StepAt_stays hb6
    have hs6 : Hid (SeqAt 2 StepAt w6 0 v l) := hs5.out.below StepAt_stays hb6
    have hB6 : Hid (Below w.heap.size w w6) := hB5.out.trans (hb6.mono hB5.out.size)
    clear hb6 hs5 hB5 hm5
    go_wp2_with fail
    refine (specSelOk_any hs6.out).mono ?_
    rintro e w7 ⟨rfl, hb7⟩
    rw [hsb]
    have hm7 : Hid (SeqAt 2 StepAt w7 0 (.slice b3 l3 c3) m) := hm6.out.below StepAt_stays hb7
    have hB7 : Hid (Below w.heap.size w w7) := hB6.out.trans (hb7.mono hB6.out.size)
    clear hb7 hs6 hB6 hm6
    go_wp2_with fail
  · refine (drawReadSel_any (h'.out.below hB7.out)).mono ?_
    rintro e wa ⟨⟨t, rfl, ht⟩, hba⟩
    have ht' : Hid (t.size ≤ 1048576) := ht
    have hBa : Hid (Below w.heap.size w wa) := hB7.out.trans (hba.mono hB7.out.size)
    clear hba ht
    go_wp2_with fail
    refine (implReadSel_any ht'.out).mono ?_
    rintro e wb ⟨b4, l4, c4, x, fx, fine, rfl, hox, _, _, hRX0, hbb⟩
    have hRX : Hid (ReadsS t x fine) := hRX0
    have hxb : Hid (SeqAt 2 StepAt wb 0 (.slice b4 l4 c4) x) := hox.at StepOwn_at (fun _ _ => Nat.zero_le _)
    have hBb : Hid (Below w.heap.size w wb) := hBa.out.trans (hbb.mono hBa.out.size)
    clear hbb hox hRX0 hBa
    go_wp2_with fail
    refine (specReadSel_any ht'.out).mono ?_
    rintro e wc ⟨b5, l5, c5, y, fy, told, rfl, _, _, _, hRY, hbc⟩
    obtain ⟨_, e2⟩ := hRY.one hRX.out
    subst e2
    have hxc : Hid (SeqAt 2 StepAt wc 0 (.slice b4 l4 c4) x) := hxb.out.below StepAt_stays hbc
    have hBc : Hid (Below w.heap.size w wc) := hBb.out.trans (hbc.mono hBb.out.size)
    clear hbc hRY hxb hBb
    cases told
    · go_wp2_with fail
      go_ret
      exact ⟨rfl, hBc.out⟩
    · have hTX : Hid (selT x = t) := hRX.out.text
      go_wp2_with fail
      refine (implSelText_any hxc.out).mono ?_
      rintro e wd ⟨rfl, hbd⟩
      rw [hTX.out]
      have hBd : Hid (Below w.heap.size w wd) := hBc.out.trans (hbd.mono hBc.out.size)
      clear hbd
      go_wp2_with fail
      go_ret
      exact ⟨rfl, hBd.out⟩
  · have hTM : Hid (selT m = selT l) := by have := hRM.out; rw [his.out, hsb] at this; exact this.text
    refine (implSelText_any hm7.out).mono ?_
    rintro e w8 ⟨rfl, hb8⟩
    rw [hTM.out]
    have hB8 : Hid (Below w.heap.size w w8) := hB7.out.trans (hb8.mono hB7.out.size)
    clear hb8 hB7
    go_wp2_with fail
    refine (drawReadSel_any (h'.out.below hB8.out)).mono ?_
    rintro e wa ⟨⟨t, rfl, ht⟩, hba⟩
    have ht' : Hid (t.size ≤ 1048576) := ht
    have hBa : Hid (Below w.heap.size w wa) := hB8.out.trans (hba.mono hB8.out.size)
    clear hba ht
    go_wp2_with fail
    refine (implReadSel_any ht'.out).mono ?_
    rintro e wb ⟨b4, l4, c4, x, fx, fine, rfl, hox, _, _, hRX0, hbb⟩
    have hRX : Hid (ReadsS t x fine) := hRX0
    have hxb : Hid (SeqAt 2 StepAt wb 0 (.slice b4 l4 c4) x) := hox.at StepOwn_at (fun _ _ => Nat.zero_le _)
    have hBb : Hid (Below w.heap.size w wb) := hBa.out.trans (hbb.mono hBa.out.size)
    clear hbb hox hRX0 hBa
    go_wp2_with fail
    refine (specReadSel_any ht'.out).mono ?_
    rintro e wc ⟨b5, l5, c5, y, fy, told, rfl, _, _, _, hRY, hbc⟩
    obtain ⟨_, e2⟩ := hRY.one hRX.out
    subst e2
    have hxc : Hid (SeqAt 2 StepAt wc 0 (.slice b4 l4 c4) x) := hxb.out.below StepAt_stays hbc
    have hBc : Hid (Below w.heap.size w wc) := hBb.out.trans (hbc.mono hBb.out.size)
    clear hbc hRY hxb hBb
    cases told
    · go_wp2_with fail
      go_ret
      exact ⟨rfl, hBc.out⟩
    · have hTX : Hid (selT x = t) := hRX.out.text
      go_wp2_with fail
      refine (implSelText_any hxc.out).mono ?_
      rintro e wd ⟨rfl, hbd⟩
      rw [hTX.out]
      have hBd : Hid (Below w.heap.size w wd) := hBc.out.trans (hbd.mono hBc.out.size)
      clear hbd
      go_wp2_with fail
      go_ret
      exact ⟨rfl, hBd.out⟩
end Go.Proofs.Ytdlkafpemongmaa
