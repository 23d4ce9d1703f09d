/- FnProgTexts: walked. -/
import Derived.Test.YtdapgihghbmlfaaGreatDoorRpSpec
import Derived.Test.YtdapgihghbmlfaaGreatDoorVmTextI
import Derived.Test.YtdapgihghbmlfaaGreatDoorVmProgW
import Derived.Test.YtdapgihghbmlfaaGreatDoorDrawHurt
namespace Go.Proofs.YtdapgihghbmlfaaGreatDoor
open Go.RowKit Go.Deep
theorem ReadsP.text {s : ByteArray} {m : List InstrD} (h : ReadsP s m true) : OkP m ∧ s.data.toList = textP m := by
  rcases h with ⟨_, h1, h2⟩ | ⟨h, _⟩
  · exact ⟨h1, h2⟩
  · cases h
theorem progT_small {l : List InstrD} {b : Bool} {ys : List Int} (h : Ans l b ys) : (progT l b).size ≤ 278 := by
  cases b
  · exact Nat.zero_le _
  · rw [← bd_len, progT_yes]; exact textP_small ⟨ys, h⟩
/-- what is read of a program's own text -/
theorem reads_own {l m : List InstrD} {b is : Bool} {ys : List Int} (h : Ans l b ys) (hr : ReadsP (progT l b) m is) : is = b ∧ (is = true → m = l) := by
  cases b
  · have := readsP_same hr (spec_empty (s := progT l false) rfl)
    exact ⟨this.2, fun q => by rw [this.2] at q; cases q⟩
  · have := readsP_same hr (Or.inl ⟨rfl, ⟨ys, h⟩, progT_yes⟩)
    exact ⟨this.2, fun _ => this.1⟩
theorem progT_of {x : List InstrD} {t : ByteArray} {b : Bool} {ys : List Int} (hx : OkP x) (ht : t.data.toList = textP x) (h : Ans x b ys) : progT x b = t := by
  obtain ⟨zs, hz⟩ := hx
  have := (ans_same h hz).1
  subst this
  exact ba_of (by rw [progT_yes, ht])
set_option maxHeartbeats 1000000 in
theorem drawDepthsOf_any {w : World} {a : Option Addr} {n cap : Nat} (h : CodeAt w a n) :
    Calls Tryz.prog 13 #[.slice a n cap] w fun e w' => (∃ (v : Value) (l : List InstrD), e = .returned v ∧ SeqAt 3 InstrAt w' 0 v l) ∧ Below w.heap.size w w' := by
  have h' : Hid (CodeAt w a n) := h
  clear h
  go_enter Tryz.func13, Tryz.ntmps13
  go_wp2_with fail
  refine (open_any h'.out).mono ?_
  rintro e w1 ⟨g, rfl, hg, hr, hb1⟩
  have hb1' : Hid (Below w.heap.size w w1) := hb1
  have hg' : Hid (w.heap.size ≤ g) := hg
  have hr' : Hid (RdAt w1 g a n cap) := hr
  clear hb1 hg hr
  go_wp2_with fail
  refine (prog_any hr'.out 8 (by omega) (by omega)).mono ?_
  rintro e w2 ⟨⟨v, ps, rfl, ho, hv, hl, hok⟩, _, hgr⟩
  have hB2 : Hid (Below w.heap.size w w2) := below_grown hb1'.out hg'.out hgr
  have hs : Hid (SeqAt 3 InstrAt w2 0 v ps) := (seq_of_own ho hv (by omega) hok).keep InstrAt_stays (.lower (Nat.zero_le _))
  clear ho hv hl hok hgr
  go_wp2_with fail
  go_ret
  exact ⟨⟨_, ps, rfl, hs.out⟩, hB2.out⟩
set_option maxHeartbeats 1000000 in
theorem drawProgText_any {w : World} {a : Option Addr} {n cap : Nat} (h : CodeAt w a n) :
    Calls Tryz.prog 5 #[.slice a n cap] w fun e w' => (∃ (v : Value) (l : List InstrD), e = .returned v ∧ SeqAt 3 InstrAt w' 0 v l) ∧ Below w.heap.size w w' := by
  go_enter Tryz.func5, Tryz.ntmps5
  go_wp2_with fail
  refine (drawDepthsOf_any h).mono ?_
  rintro e w1 ⟨⟨v, l, rfl, hs⟩, hb1⟩
  have hs' : Hid (SeqAt 3 InstrAt w1 0 v l) := hs
  clear hs
  go_wp2_with fail
  go_ret
  exact ⟨⟨v, l, rfl, hs'.out⟩, hb1⟩
set_option maxHeartbeats 2000000 in
theorem drawReadProg_any {w : World} {a : Option Addr} {n cap : Nat} (h : CodeAt w a n) :
    Calls Tryz.prog 11 #[.slice a n cap] w fun e w' => (∃ s : ByteArray, e = .returned (.string s) ∧ s.size ≤ 1048576) ∧ Below w.heap.size w w' := by
  have h' : Hid (CodeAt w a n) := h
  clear h
  go_enter Tryz.func11, Tryz.ntmps11
  go_wp2_with fail
  refine (open_any h'.out).mono ?_
  rintro e w1 ⟨g, rfl, hg, hr1, hb1⟩
  have hr1' : Hid (RdAt w1 g a n cap) := hr1
  have hB1 : Hid (Below w.heap.size w w1) := hb1
  clear hr1 hb1
  go_wp2_with fail
  refine (prog_any hr1'.out 6 (by omega) (by omega)).mono ?_
  rintro e w2 ⟨⟨v, ps, rfl, ho, hv, hl, hok⟩, hr2, hg2⟩
  have hs : Hid (SeqAt 3 InstrAt w2 0 v ps) := (seq_of_own ho hv (by omega) hok).keep InstrAt_stays (.lower (Nat.zero_le _))
  have hr2' : Hid (RdAt w2 g a n cap) := hr2
  have hB2 : Hid (Below w.heap.size w w2) := below_grown hB1.out hg hg2
  clear ho hv hl hok hg2 hr2
  go_wp2_with fail
  refine (specProgText_any hs.out).mono ?_
  rintro e w3 ⟨⟨b, ys, rfl, hans⟩, hb3⟩
  have hB3 : Hid (Below w.heap.size w w3) := hB2.out.trans (hb3.mono hB2.out.size)
  have hr3 : Hid (RdAt w3 g a n cap) := hr2'.out.below hb3
  have hts : Hid ((progT ps b).size ≤ 278) := progT_small hans
  generalize progT ps b = t at *
  clear hb3 hs hr2' hB2 hans
  go_wp2_with fail
  refine (once_any hr3.out 2 (by omega) (by omega)).mono ?_
  rintro e w4 ⟨v, rfl, hr4, hg4⟩
  have hr4' : Hid (RdAt w4 g a n cap) := hr4
  have hB4 : Hid (Below w.heap.size w w4) := below_grown hB3.out hg hg4
  clear hr4 hg4 hr3 hB3
  cases v with
  | false =>
    go_wp2_with fail
    refine (hurt_any hr4'.out t (by have := hts.out; omega)).mono ?_
    rintro e w5 ⟨u, rfl, hu, _, hg5⟩
    have hB5 : Hid (Below w.heap.size w w5) := below_grown hB4.out hg hg5
    have hus : Hid (u.size ≤ 1048576) := by show _ ≤ _; have := hts.out; omega
    clear hu hg5
    go_wp2_with fail
    go_ret
    exact ⟨⟨u, rfl, hus.out⟩, hB5.out⟩
  | true =>
    go_wp2_with fail
    go_ret
    exact ⟨⟨t, rfl, by have := hts.out; omega⟩, hB4.out⟩
set_option maxHeartbeats 1000000 in
theorem big_any {a : Option Addr} {n cap : Nat} (w : World) : Calls Tryz.prog 4 #[.slice a n cap] w fun e w' => e = .returned (.bool (decide ((1048576 : Int) < (n : Int)))) ∧ w' = w := by
  go_enter Tryz.func4, Tryz.ntmps4
  go_wp2_with fail
  go_ret
  exact ⟨rfl, rfl⟩
set_option maxHeartbeats 2000000 in
theorem sameProg_any {w : World} {lo lo2 : Nat} {k k2 : Value} {xs : List InstrD} (hk : SeqAt 3 InstrAt w lo k xs) (hk2 : SeqAt 3 InstrAt w lo2 k2 xs) :
    Calls Tryz.prog 10 #[k, k2] w fun e w' => e = .returned (.bool true) ∧ Below w.heap.size w w' := by
  obtain ⟨a, cap, rfl, hm, hx⟩ := hk
  obtain ⟨a2, cap2, rfl, _, hx2⟩ := hk2
  unfold maxLen at hm
  have hx' : Hid _ := hx
  have hx2' : Hid _ := hx2
  clear hx hx2
  go_enter Tryz.func10, Tryz.ntmps10
  go_wp2_with fail
  go_loopw [5] (fun i wr => ∃ (j : Nat), j ≤ xs.length ∧ i = .int .i64 j ∧ Below w.heap.size w wr) (fun i _ => xs.length - (intOf i).toNat)
  case atStart => exact ⟨0, by omega, rfl, Below.refl _ _⟩
  case round =>
    obtain ⟨j, hj, rfl, hb⟩ := hrel
    by_cases hlt : j < xs.length
    · obtain ⟨b, off, rfl, hlo, hbw, hc⟩ := hx'.out (by omega)
      obtain ⟨b2, off2, rfl, hlo2, hbw2, hc2⟩ := hx2'.out (by omega)
      obtain ⟨cs, hcl, lie, hr⟩ := hc j hlt
      obtain ⟨cs2, hcl2, lie2, hr2⟩ := hc2 j hlt
      have lie1 := Lie.keep (lo := lo) (lo' := lo) lie (.of_below hb) hlo hbw
      have lie3 := Lie.keep (lo := lo2) (lo' := lo2) lie2 (.of_below hb) hlo2 hbw2
      generalize xs[j] = X at hr hr2
      obtain ⟨rfl, _⟩ := hr
      obtain ⟨rfl, _⟩ := hr2
      have x0 := lie1 0 (by simp)
      have x1 := lie1 1 (by simp)
      have x2 := lie1 2 (by simp)
      have y0 := lie3 0 (by simp)
      have y1 := lie3 1 (by simp)
      have y2 := lie3 2 (by simp)
      simp only [List.getElem?_cons_zero, List.getElem?_cons_succ, Nat.add_zero] at x0 x1 x2 y0 y1 y2
      have hlt' : (j : Int) < (xs.length : Int) := by omega
      have h0' : (0 : Int) ≤ (j : Int) := by omega
      clear lie lie2 lie1 lie3 hcl hcl2 hx' hx2' hc hc2
      go_wp2_with fail
      go_region_held3 (fun w' => w'.cell? ⟨b, off + j * 3, none⟩ = some (.int .i64 X.vKind) ∧ w'.cell? ⟨b, off + j * 3 + 1, none⟩ = some (.int .i64 X.vN) ∧ w'.cell? ⟨b, off + j * 3 + 2, none⟩ = some (.string X.vName) ∧ w'.cell? ⟨b2, off2 + j * 3, none⟩ = some (.int .i64 X.vKind) ∧ w'.cell? ⟨b2, off2 + j * 3 + 1, none⟩ = some (.int .i64 X.vN) ∧ w'.cell? ⟨b2, off2 + j * 3 + 2, none⟩ = some (.string X.vName)) (go_keep) (fail)
      go_wp2_with fail
      go_roundw
      case rel => exact ⟨j + 1, by omega, by go_num, hb.drew⟩
      case measure => simp [intOf]; omega
    · go_wp2_with fail
      go_ret
      exact ⟨rfl, hb⟩
set_option maxRecDepth 100000 in
set_option maxHeartbeats 8000000 in
theorem fnProgTexts.walk {a : Option Addr} {n cap : Nat} (w : World) (_ : n ≤ maxLen) (hcode : n ≤ 1048576 → CodeAt w a n) (hT0 : Tb w) :
    Calls Tryz.prog 3 #[.slice a n cap] w fun e w' => e = .returned (.bool true) ∧ Below w.heap.size w w' := by
  by_cases hbig : (1048576 : Int) < (n : Int)
  · go_enter Tryz.func3, Tryz.ntmps3
    go_wp2_with (go_at_call 4; refine (big_any _).mono ?_; rintro e w' ⟨rfl, rfl⟩; rw [decide_eq_true hbig])
    go_ret
    exact ⟨rfl, Below.refl _ _⟩
  have h' : Hid (CodeAt w a n) := hcode (by omega)
  have hT : Hid (∀ w', Below w.heap.size w w' → Tb w') := fun w' hb => hT0.below hb hT0.lt
  clear hcode hT0
  go_enter Tryz.func3, Tryz.ntmps3
  go_wp2_with (go_at_call 4; refine (big_any _).mono ?_; rintro e w' ⟨rfl, e9⟩; have e10 := e9.symm; clear e9; subst e10; rw [decide_eq_false hbig])
  refine (drawProgText_any h'.out).mono ?_
  rintro e w1 ⟨⟨v, l, rfl, hs1⟩, hb1⟩
  have hs1' : Hid (SeqAt 3 InstrAt w1 0 v l) := hs1
  have hB1 : Hid (Below w.heap.size w w1) := hb1
  clear hs1 hb1 hbig
  go_wp2_with fail
  refine (implProgText_any hs1'.out (hT.out _ hB1.out).1 (hT.out _ hB1.out).2.1).mono ?_
  rintro e w2 ⟨⟨b, ys, rfl, hans⟩, hb2⟩
  have hans' : Hid (Ans l b ys) := hans
  have hs2 : Hid (SeqAt 3 InstrAt w2 0 v l) := hs1'.out.below InstrAt_stays hb2
  have hB2 : Hid (Below w.heap.size w w2) := hB1.out.trans (hb2.mono hB1.out.size)
  clear hb2 hs1' hB1 hans
  go_wp2_with fail
  refine (implReadProg_any (s := progT l b) (by have := progT_small hans'.out; omega) (hT.out _ hB2.out)).mono ?_
  rintro e w3 ⟨b3, l3, c3, m, fs, is, rfl, hom, _, _, hRM0, hb3⟩
  obtain ⟨e1, hml⟩ := reads_own hans'.out hRM0
  subst e1
  have hml' : Hid (is = true → m = l) := hml
  have hm3 : Hid (SeqAt 3 InstrAt w3 0 (.slice b3 l3 c3) m) := hom.at InstrOwn_at (fun _ _ => Nat.zero_le _)
  have hs3 : Hid (SeqAt 3 InstrAt w3 0 v l) := hs2.out.below InstrAt_stays hb3
  have hB3 : Hid (Below w.heap.size w w3) := hB2.out.trans (hb3.mono hB2.out.size)
  clear hb3 hs2 hB2 hom hRM0 hml
  go_wp2_with fail
  refine (specProgText_any hs3.out).mono ?_
  rintro e w4 ⟨⟨b4, ys4, rfl, hans4⟩, hb4⟩
  have e4 := (ans_same hans4 hans'.out).1
  subst e4
  have hm4 : Hid (SeqAt 3 InstrAt w4 0 (.slice b3 l3 c3) m) := hm3.out.below InstrAt_stays hb4
  have hs4 : Hid (SeqAt 3 InstrAt w4 0 v l) := hs3.out.below InstrAt_stays hb4
  have hB4 : Hid (Below w.heap.size w w4) := hB3.out.trans (hb4.mono hB3.out.size)
  clear hb4 hs3 hB3 hm3 hans4
  generalize progT l b4 = pt at *
  go_wp2_with fail
  refine (implProgOk_any hs4.out (hT.out _ hB4.out).1).mono ?_
  rintro e w5 ⟨⟨b5, ys5, rfl, hans5⟩, hb5⟩
  have e5 := (ans_same hans5 hans'.out).1
  subst e5
  have hm5 : Hid (SeqAt 3 InstrAt w5 0 (.slice b3 l3 c3) m) := hm4.out.below InstrAt_stays hb5
  have hs5 : Hid (SeqAt 3 InstrAt w5 0 v l) := hs4.out.below InstrAt_stays hb5
  have hB5 : Hid (Below w.heap.size w w5) := hB4.out.trans (hb5.mono hB4.out.size)
  clear hb5 hs4 hB4 hm4 hans5
  cases b5
  · go_wp2_with fail
    refine (drawReadProg_any (h'.out.below hB5.out)).mono ?_
    rintro e wa ⟨⟨t, rfl, ht⟩, hba⟩
    have ht' : Hid (t.size ≤ 1048576) := ht
    have hBa : Hid (Below w.heap.size w wa) := hB5.out.trans (hba.mono hB5.out.size)
    clear hba ht
    go_wp2_with fail
    refine (implReadProg_any ht'.out (hT.out _ hBa.out)).mono ?_
    rintro e wb ⟨b4, l4, c4, x, fx, fine, rfl, hox, _, _, hRX0, hbb⟩
    have hRX : Hid (ReadsP t x fine) := hRX0
    have hxb : Hid (SeqAt 3 InstrAt wb 0 (.slice b4 l4 c4) x) := hox.at InstrOwn_at (fun _ _ => Nat.zero_le _)
    have hBb : Hid (Below w.heap.size w wb) := hBa.out.trans (hbb.mono hBa.out.size)
    clear hbb hox hRX0 hBa
    go_wp2_with fail
    refine (specReadProg_any ht'.out).mono ?_
    rintro e wc ⟨b5, l5, c5, y, fy, told, rfl, _, _, _, hRY, hbc⟩
    obtain ⟨_, e2⟩ := readsP_same hRY hRX.out
    subst e2
    have hxc : Hid (SeqAt 3 InstrAt wc 0 (.slice b4 l4 c4) x) := hxb.out.below InstrAt_stays hbc
    have hBc : Hid (Below w.heap.size w wc) := hBb.out.trans (hbc.mono hBb.out.size)
    clear hbc hRY hxb hBb
    cases told
    · go_wp2_with fail
      go_ret
      exact ⟨rfl, hBc.out⟩
    · have hTX : Hid (OkP x ∧ t.data.toList = textP x) := hRX.out.text
      go_wp2_with fail
      refine (implProgText_any hxc.out (hT.out _ hBc.out).1 (hT.out _ hBc.out).2.1).mono ?_
      rintro e wd ⟨⟨bx, yx, rfl, hansx⟩, hbd⟩
      rw [progT_of hTX.out.1 hTX.out.2 hansx]
      have hBd : Hid (Below w.heap.size w wd) := hBc.out.trans (hbd.mono hBc.out.size)
      clear hbd hansx
      go_wp2_with fail
      go_ret
      exact ⟨rfl, hBd.out⟩
  · have hml2 : m = l := hml'.out rfl
    subst hml2
    go_wp2_with fail
    refine (sameProg_any hm5.out hs5.out).mono ?_
    rintro e w6 ⟨rfl, hb6⟩
    have hB6 : Hid (Below w.heap.size w w6) := hB5.out.trans (hb6.mono hB5.out.size)
    clear hb6 hB5 hm5 hs5
    generalize w6 = w5 at *
    have hB5 : Hid (Below w.heap.size w w5) := hB6.out
    go_wp2_with fail
    refine (drawReadProg_any (h'.out.below hB5.out)).mono ?_
    rintro e wa ⟨⟨t, rfl, ht⟩, hba⟩
    have ht' : Hid (t.size ≤ 1048576) := ht
    have hBa : Hid (Below w.heap.size w wa) := hB5.out.trans (hba.mono hB5.out.size)
    clear hba ht
    go_wp2_with fail
    refine (implReadProg_any ht'.out (hT.out _ hBa.out)).mono ?_
    rintro e wb ⟨b4, l4, c4, x, fx, fine, rfl, hox, _, _, hRX0, hbb⟩
    have hRX : Hid (ReadsP t x fine) := hRX0
    have hxb : Hid (SeqAt 3 InstrAt wb 0 (.slice b4 l4 c4) x) := hox.at InstrOwn_at (fun _ _ => Nat.zero_le _)
    have hBb : Hid (Below w.heap.size w wb) := hBa.out.trans (hbb.mono hBa.out.size)
    clear hbb hox hRX0 hBa
    go_wp2_with fail
    refine (specReadProg_any ht'.out).mono ?_
    rintro e wc ⟨b5, l5, c5, y, fy, told, rfl, _, _, _, hRY, hbc⟩
    obtain ⟨_, e2⟩ := readsP_same hRY hRX.out
    subst e2
    have hxc : Hid (SeqAt 3 InstrAt wc 0 (.slice b4 l4 c4) x) := hxb.out.below InstrAt_stays hbc
    have hBc : Hid (Below w.heap.size w wc) := hBb.out.trans (hbc.mono hBb.out.size)
    clear hbc hRY hxb hBb
    cases told
    · go_wp2_with fail
      go_ret
      exact ⟨rfl, hBc.out⟩
    · have hTX : Hid (OkP x ∧ t.data.toList = textP x) := hRX.out.text
      go_wp2_with fail
      refine (implProgText_any hxc.out (hT.out _ hBc.out).1 (hT.out _ hBc.out).2.1).mono ?_
      rintro e wd ⟨⟨bx, yx, rfl, hansx⟩, hbd⟩
      rw [progT_of hTX.out.1 hTX.out.2 hansx]
      have hBd : Hid (Below w.heap.size w wd) := hBc.out.trans (hbd.mono hBc.out.size)
      clear hbd hansx
      go_wp2_with fail
      go_ret
      exact ⟨rfl, hBd.out⟩
end Go.Proofs.YtdapgihghbmlfaaGreatDoor
