/- FnNarrower, walked. -/
import Derived.Test.YtgmgbjeejlkdmaaNarPlain
import Derived.Test.YtgmgbjeejlkdmaaMatchTop
import Derived.Test.YtgmgbjeejlkdmaaMatchSpecC
import Derived.Test.YtgmgbjeejlkdmaaAtTop
import Derived.Test.YtgmgbjeejlkdmaaTakeLit
import Derived.Deep.RegionHeld3
import Derived.Deep.DeepCutAuto
import Derived.ProofKit
namespace Go.Proofs.Ytgmgbjeejlkdmaa.fnNarrower
open Go.RowKit Go.Deep
def USt (A : Nat) (ta ka : Value) (xa : TD) (wr : World) : Prop := TreeAt wr 0 4 ta ka xa ∧ Box wr A [ta, ka] 26
theorem USt.below {A : Nat} {ta ka : Value} {xa : TD} {wr w' : World} (h : USt A ta ka xa wr) (hb : Below wr.heap.size wr w') : USt A ta ka xa w' := ⟨h.1.below hb, h.2.below hb h.2.lt⟩
theorem USt.cells {A : Nat} {ta ka : Value} {xa : TD} {wr : World} (h : USt A ta ka xa wr) : wr.cell? ⟨A, 0, none⟩ = some ta ∧ wr.cell? ⟨A, 1, none⟩ = some ka := ⟨h.2.cell 0 rfl, h.2.cell 1 rfl⟩
theorem big_any {a : Option Addr} {n cap : Nat} (w : World) : Calls Try.prog 6 #[.slice a n cap] w fun e w' => e = .returned (.bool (decide ((1048576 : Int) < (n : Int)))) ∧ w' = w := by
  go_enter Try.func6, Try.ntmps6
  go_wp2
  go_ret
  exact ⟨rfl, rfl⟩
theorem two_b (b : Bool) : b = false ∨ b = true := by cases b <;> simp
theorem one_seq {w : World} {s : ByteArray} (hs : s.size ≤ maxLen) : SeqAt 2 StepAt (w.alloc (.cells #[.string s, .bool true] 49)) 0 (.slice (some ⟨w.heap.size, 0, none⟩) 1 1) [⟨s, true⟩] := by
  have hb : Box (w.alloc (.cells #[.string s, .bool true] 49)) w.heap.size [.string s, .bool true] 49 := Box.new w _ _
  refine ⟨_, _, rfl, ⟨by simp [maxLen], by simp⟩, fun _ => ⟨_, _, rfl, Nat.zero_le _, hb.lt, fun i hi => ⟨[.string s, .bool true], rfl, fun m hm => ?_, ?_⟩⟩⟩
  · have hi0 : i = 0 := by simpa using hi
    subst hi0
    match m, hm with
    | 0, _ => exact hb.cell 0 rfl
    | 1, _ => exact hb.cell 1 rfl
    | m + 2, hm => simp at hm; omega
  · have hi0 : i = 0 := by simpa using hi
    subst hi0
    exact ⟨rfl, hs, trivial⟩
theorem rowS_of {w : World} {base : Nat} {v : Value} {ss : List StepD} (h : w.ownsRow base 49 2 v ss.length (flatSt ss)) (hv : ¬ v = .slice none 0 0) : ∃ r cp, v = .slice (some ⟨r, 0, none⟩) ss.length cp ∧ RowS w base r cp ss := by
  rcases h.2 with ⟨q, _⟩ | ⟨r, cp, cur, q, _⟩
  · exact absurd q hv
  · exact ⟨r, cp, q, by show w.ownsRow _ _ _ _ _ _; rw [← q]; exact h⟩
theorem row_empty (w : World) : (w.alloc (.cells #[] 49)).ownsRow w.heap.size 49 2 (.slice (some ⟨w.heap.size, 0, none⟩) 0 0) 0 [] := ⟨rfl, Or.inr ⟨_, _, #[], rfl, Nat.le_refl _, (MapKept.heap_alloc w _).1, Nat.le_refl _, Nat.zero_le _, rfl, rfl⟩⟩
theorem below_row {w w' : World} (hg : (w.alloc (.cells #[] 49)).grownBy w' (some w.heap.size)) : Below w.heap.size w w' :=
  ⟨hg.os, hg.tape, hg.output, Nat.le_trans (by simp) hg.size, fun k hk => (hg.block k (by simp; omega) (fun e => by injection e with e; omega)).trans (Below.heap_alloc w _ k hk)⟩
theorem tags_ok {ss : List StepD} {x : StepD} {i : Nat} (h : ∀ y ∈ ss, y.vTag.size ≤ 100) (hx : x.vTag.size ≤ 100) : ∀ y ∈ ss.set i x, y.vTag.size ≤ 100 := fun y hy => by
  rcases List.mem_or_eq_of_mem_set hy with q | q
  · exact h y q
  · rw [q]; exact hx
theorem stL_ok {ss : List StepD} {i : Nat} (h : ∀ y ∈ ss, y.vTag.size ≤ 100) (hi : i < ss.length) : (stL ss i).vTag.size ≤ 100 := by rw [stL_get hi]; exact h _ (List.getElem_mem hi)
set_option maxRecDepth 100000 in
set_option maxHeartbeats 8000000 in
theorem walk {a : Option Addr} {n cap : Nat} (w : World) (hlen : n ≤ maxLen) (hcode : n ≤ 1048576 → CodeAt w a n) :
    Calls Try.prog 5 #[.slice a n cap] w fun e w' => e = .returned (.bool true) ∧ Below w.heap.size w w' := by
  unfold maxLen at hlen
  by_cases hbig : (1048576 : Int) < (n : Int)
  · clear hcode
    go_enter Try.func5, Try.ntmps5
    go_wp2_with (go_at_call 6; refine (big_any _).mono ?_; rintro e w' ⟨rfl, rfl⟩; rw [decide_eq_true hbig])
    go_ret
    exact ⟨rfl, Below.refl _ _⟩
  have hc' : Hid (CodeAt w a n) := hcode (by omega)
  have hbe : Hid (decide ((1048576 : Int) < (n : Int)) = false) := decide_eq_false hbig
  obtain ⟨iT, hiT, heT⟩ := Option.map_eq_some_iff.1 infoSt
  simp only [Prod.mk.injEq] at heT
  have hI : Hid (Try.prog.info? 49 = some iT) := hiT
  have hE : Hid (iT.zero = some (.agg #[.string ⟨#[]⟩, .bool false]) ∧ iT.bytes = 24 ∧ iT.size = 2) := heT
  clear hcode hbig hlen hiT heT
  go_enter Try.func5, Try.ntmps5
  go_wp2_with (go_at_call 6; refine (big_any _).mono ?_; rintro e w' ⟨rfl, e9⟩; have e10 := e9.symm; clear e9; subst e10; rw [hbe.out])
  refine (drawMatches_any hc'.out).mono ?_
  rintro e w2 ⟨⟨ta, ka, vp, xa, path, ss, rs, cs, rfl, hta, ⟨hpa, hpl⟩, lo, hrow, htk, hsl, hs10⟩, hb2⟩
  obtain ⟨rfl, _⟩ := hta.tag
  obtain ⟨_, aa, ca, rfl⟩ := hta.form
  obtain ⟨ap, cp, rfl⟩ := hpa.form
  have hta' : Hid (TreeAt w2 0 4 (.string (strT xa)) (.slice aa (kidsOf xa).length ca) xa) := hta
  have hB2 : Hid (Below w.heap.size w w2) := hb2
  have hsl' : Hid (∀ w', Below w2.heap.size w2 w' → SeqAt 2 StepAt w' lo (.slice (some ⟨rs, 0, none⟩) ss.length cs) ss) := fun w' h => hsl.below StepAt_stays h
  have hpa' : Hid (∀ w', Below w2.heap.size w2 w' → SeqAt 1 IntAt w' 0 (.slice ap path.length cp) path) := fun w' h => hpa.below intAt_stays h
  have hro' : Hid (∀ w', Below w2.heap.size w2 w' → RowS w' lo rs cs ss) := fun w' h => rowS_keep hrow (h.block rs (rowS_lt hrow).2)
  have htk' : Hid (∀ x ∈ ss, x.vTag.size ≤ 100) := htk
  have hpl' : Hid (path.length ≤ 1048576) := by show _ ≤ _; omega
  clear hta hb2 hsl hc' hpa hrow htk hpl
  have h24 : Hid (Below w2.heap.size w2 (w2.alloc (.cells #[.string (strT xa), .slice aa (kidsOf xa).length ca] 26))) := (Below.refl _ _).alloc (Nat.le_refl _) _
  have hG4 : Hid (USt w2.heap.size (.string (strT xa)) (.slice aa (kidsOf xa).length ca) xa (w2.alloc (.cells #[.string (strT xa), .slice aa (kidsOf xa).length ca] 26))) := ⟨hta'.out.below h24.out, Box.new w2 _ _⟩
  clear hta'
  go_upto_region 4 with fail
  generalize (w2.alloc (.cells #[.string (strT xa), .slice aa (kidsOf xa).length ca] 26)) = w4 at h24 hG4 ⊢
  generalize hAe : w2.heap.size = A at hG4 ⊢
  have hAe' : Hid (w2.heap.size = A) := hAe
  clear hAe
  obtain ⟨a0, a1⟩ := USt.cells hG4.out
  have hM0 : Hid ((matchD (okB (szD 4 xa 30)) xa path ss) = (matchD (okB (szD 4 xa 30)) xa path ss)) := rfl
  obtain ⟨im, him0⟩ : ∃ im, (matchD (okB (szD 4 xa 30)) xa path ss) = im := ⟨_, rfl⟩
  have him : Hid ((matchD (okB (szD 4 xa 30)) xa path ss) = im) := him0
  clear him0 hM0
  go_wp2_with fail
  refine (implMatches_any (n := 4) (by exact hG4.out.1) (by exact hpa'.out _ h24.out) hpl'.out (by exact hsl'.out _ h24.out)).mono ?_
  rintro e w5 ⟨rfl, hb5⟩
  rw [him.out]
  have hG5 : Hid (USt A (.string (strT xa)) (.slice aa (kidsOf xa).length ca) xa w5) := hG4.out.below hb5
  have h25 : Hid (Below w2.heap.size w2 w5) := h24.out.trans (hb5.mono h24.out.size)
  clear hb5 hG4 h24 a0 a1
  obtain ⟨a0, a1⟩ := USt.cells hG5.out
  go_wp2_with fail
  refine (specMatches_any (n := 4) (by exact hG5.out.1) (by exact hpa'.out _ h25.out) (by exact hsl'.out _ h25.out)).mono ?_
  rintro e w6 ⟨rfl, hb6⟩
  rw [him.out]
  have hG6 : Hid (USt A (.string (strT xa)) (.slice aa (kidsOf xa).length ca) xa w6) := hG5.out.below hb6
  have h26 : Hid (Below w2.heap.size w2 w6) := h25.out.trans (hb6.mono h25.out.size)
  have him1 : (im != im) = false := by simp
  have him2 : (im == im) = true := by simp
  clear hb6 hG5 h25 a0 a1
  go_wp2_with fail
  refine (specSelOk_any (by exact hsl'.out _ h26.out)).mono ?_
  rintro e w7 ⟨rfl, hb7⟩
  have hG7 : Hid (USt A (.string (strT xa)) (.slice aa (kidsOf xa).length ca) xa w7) := hG6.out.below hb7
  have h27 : Hid (Below w2.heap.size w2 w7) := h26.out.trans (hb7.mono h26.out.size)
  clear hb7 hG6 h26
  rcases two_b (selB ss) with hsb | hsb
  · rw [hsb]
    have hsb' : Hid (selB ss = false) := hsb
    clear hsb
    obtain ⟨a0, a1⟩ := USt.cells hG7.out
    go_wp2_with fail
    refine (specMatches_any (n := 4) (by exact hG7.out.1) (by exact hpa'.out _ h27.out) (by exact hsl'.out _ h27.out)).mono ?_
    rintro e wx ⟨rfl, hbx⟩
    rw [him.out]
    have h2x : Hid (Below w2.heap.size w2 wx) := h27.out.trans (hbx.mono h27.out.size)
    clear hbx
    go_wp2_with fail
    go_ret
    exact ⟨by first | rfl | simp, hB2.out.trans (h2x.out.mono hB2.out.size)⟩
  rw [hsb]
  have hsb' : Hid (selB ss = true) := hsb
  clear hsb
  obtain ⟨a0, a1⟩ := USt.cells hG7.out
  go_wp2_with fail
  refine (specTreeOk_any (n := 4) (by exact hG7.out.1)).mono ?_
  rintro e w8 ⟨rfl, hb8⟩
  have hG8 : Hid (USt A (.string (strT xa)) (.slice aa (kidsOf xa).length ca) xa w8) := hG7.out.below hb8
  have h28 : Hid (Below w2.heap.size w2 w8) := h27.out.trans (hb8.mono h27.out.size)
  clear hb8 hG7 h27 a0 a1
  obtain ⟨okb, hokb0⟩ : ∃ okb, okB (szD 4 xa 30) = okb := ⟨_, rfl⟩
  rw [hokb0]
  have hokb : Hid (okB (szD 4 xa 30) = okb) := hokb0
  clear hokb0
  rcases two_b okb with rfl | rfl
  · skip
    obtain ⟨a0, a1⟩ := USt.cells hG8.out
    go_wp2_with fail
    refine (specMatches_any (n := 4) (by exact hG8.out.1) (by exact hpa'.out _ h28.out) (by exact hsl'.out _ h28.out)).mono ?_
    rintro e wx ⟨rfl, hbx⟩
    rw [him.out]
    have h2x : Hid (Below w2.heap.size w2 wx) := h28.out.trans (hbx.mono h28.out.size)
    clear hbx
    go_wp2_with fail
    go_ret
    exact ⟨by first | rfl | simp, hB2.out.trans (h2x.out.mono hB2.out.size)⟩
  obtain ⟨a0, a1⟩ := USt.cells hG8.out
  obtain ⟨th, hth0⟩ : ∃ th, (atD (okB (szD 4 xa 30)) xa path).2 = th := ⟨_, rfl⟩
  have hth : Hid (okP xa path = th) := by
    show _ = _
    rw [← hth0, hokb.out]
    cases hq : okP xa path
    · rw [atD_no (by rw [hq]; rfl)]
    · rw [atD_yes rfl hq]
  go_wp2_with fail
  refine (implAt_any (n := 4) (by exact hG8.out.1) (by exact hpa'.out _ h28.out) hpl'.out).mono ?_
  rintro e w9 ⟨⟨csT, fsT, rfl, hO, _, _⟩, hb9⟩
  rw [hth0]
  obtain ⟨kT, rfl, hks, _⟩ := hO.opened
  obtain ⟨aT, cT, rfl⟩ := hks.form
  have hG9 : Hid (USt A (.string (strT xa)) (.slice aa (kidsOf xa).length ca) xa w9) := hG8.out.below hb9
  have h29 : Hid (Below w2.heap.size w2 w9) := h28.out.trans (hb9.mono h28.out.size)
  clear hb9 hG8 h28 a0 a1 hO hks hth0
  generalize strT (atD (okB (szD 4 xa 30)) xa path).1 = sT
  generalize (kidsOf (atD (okB (szD 4 xa 30)) xa path).1).length = nT
  have hbX : Hid (Below w9.heap.size w9 (w9.alloc (.cells #[.string sT, .slice aT nT cT] 26))) := (Below.refl _ _).alloc (Nat.le_refl _) _
  have hGX : Hid (USt A (.string (strT xa)) (.slice aa (kidsOf xa).length ca) xa (w9.alloc (.cells #[.string sT, .slice aT nT cT] 26))) := hG9.out.below hbX.out
  have h2X : Hid (Below w2.heap.size w2 (w9.alloc (.cells #[.string sT, .slice aT nT cT] 26))) := h29.out.trans (hbX.out.mono h29.out.size)
  clear hbX hG9 h29
  go_upto_region 8 with fail
  generalize (w9.alloc (.cells #[.string sT, .slice aT nT cT] 26)) = w10 at hGX h2X ⊢
  obtain ⟨a0, a1⟩ := USt.cells hGX.out
  have hbY : Hid (Below w10.heap.size w10 (w10.alloc (.cells #[.string ⟨#[]⟩, .bool true] 49))) := (Below.refl _ _).alloc (Nat.le_refl _) _
  have h2Y : Hid (Below w2.heap.size w2 (w10.alloc (.cells #[.string ⟨#[]⟩, .bool true] 49))) := h2X.out.trans (hbY.out.mono h2X.out.size)
  go_wp2_with fail
  refine (implMatches_any (n := 4) (by exact (hGX.out.below hbY.out).1) (by exact hpa'.out _ h2Y.out) hpl'.out (by exact one_seq (Nat.zero_le _))).mono ?_
  rintro e w11 ⟨rfl, hb11⟩
  rw [match_all, hokb.out, Bool.true_and, hth.out]
  have hG11 : Hid (USt A (.string (strT xa)) (.slice aa (kidsOf xa).length ca) xa w11) := (hGX.out.below hbY.out).below hb11
  have h211 : Hid (Below w2.heap.size w2 w11) := h2Y.out.trans (hb11.mono h2Y.out.size)
  have hth1 : (th != th) = false := by simp
  clear hb11 hGX h2X hbY h2Y a0 a1
  go_wp2_with fail
  go_loopw [9] (fun i wr => ∃ j : Nat, j ≤ ss.length ∧ i = .int .i64 j ∧ Hid (USt A (.string (strT xa)) (.slice aa (kidsOf xa).length ca) xa wr) ∧ Hid (Below w2.heap.size w2 wr)) (fun i _ => ss.length - (intOf i).toNat)
  case atStart => exact ⟨0, Nat.zero_le _, rfl, hG11, h211⟩
  case round =>
    obtain ⟨j, hj, rfl, hGr, h2r⟩ := hrel
    by_cases hlt : j < ss.length
    · have hlt' : (j : Int) < (ss.length : Int) := by omega
      have h2W : Hid (Below w2.heap.size w2 (wr.alloc (.cells #[] 49))) := h2r.out.alloc h2r.out.size _
      go_wp2_with (at_builtin; refine wpList_append_own _ rfl _ _ 40 rfl (wr.heap.size) 49 iT (.agg #[.string ⟨#[]⟩, .bool false]) 2 24 Try.underlying40 hI.out hE.out.1 hE.out.2.2 hE.out.2.1 rfl (by decide) _ 0 [] rfl (row_empty wr) ⟨rs, 0, none⟩ ss.length cs (flatSt ss) rfl (flatSt_length _) (rowS_news (hro'.out _ h2W.out)) (flatSt_one _) (by unfold maxLen; omega) (by omega) (by simp) ?_)
      intro v5 w5 ho5 hg5 hn5
      obtain ⟨r5, c5, rfl, hR5⟩ := rowS_of ho5 hn5
      have hb5 : Hid (Below wr.heap.size wr w5) := below_row hg5
      have hr5 := rowS_lt hR5
      obtain ⟨⟨u5, c5c⟩, c5u, hR6⟩ := rowS_wide hR5 hlt
      have hR6' : Hid (RowS (w5.setCell ⟨r5, j * 2, none⟩ (.string ⟨#[]⟩)) wr.heap.size r5 c5 (wideL ss j)) := hR6
      have hb6 : Hid (Below wr.heap.size wr (w5.setCell ⟨r5, j * 2, none⟩ (.string ⟨#[]⟩))) := hb5.out.setCell (by exact hr5.1) _
      clear ho5 hg5 hn5 hR5 hR6 h2W
      go_upto_region 15 with fail
      generalize (w5.setCell ⟨r5, j * 2, none⟩ (.string ⟨#[]⟩)) = w6 at hR6' hb6 ⊢
      clear c5c c5u hb5
      have hr6 := rowS_lt hR6'.out
      have h26 : Hid (Below w2.heap.size w2 w6) := h2r.out.trans (hb6.out.mono h2r.out.size)
      have h2W : Hid (Below w2.heap.size w2 (w6.alloc (.cells #[] 49))) := h26.out.alloc h26.out.size _
      go_wp2_with (at_builtin; refine wpList_append_own _ rfl _ _ 40 rfl (w6.heap.size) 49 iT (.agg #[.string ⟨#[]⟩, .bool false]) 2 24 Try.underlying40 hI.out hE.out.1 hE.out.2.2 hE.out.2.1 rfl (by decide) _ 0 [] rfl (row_empty w6) ⟨rs, 0, none⟩ ss.length cs (flatSt ss) rfl (flatSt_length _) (rowS_news (hro'.out _ h2W.out)) (flatSt_one _) (by unfold maxLen; omega) (by omega) (by simp) ?_)
      intro v8 w8 ho8 hg8 hn8
      obtain ⟨r8, c8, rfl, hR8⟩ := rowS_of ho8 hn8
      have hb8 : Hid (Below w6.heap.size w6 w8) := below_row hg8
      have hr8 := rowS_lt hR8
      obtain ⟨⟨u8, c8c⟩, c8u, hR9⟩ := rowS_deep hR8 hlt
      have hR9' : Hid (RowS (w8.setCell ⟨r8, j * 2 + 1, none⟩ (.bool true)) w6.heap.size r8 c8 (deepL ss j)) := hR9
      have hb9 : Hid (Below w6.heap.size w6 (w8.setCell ⟨r8, j * 2 + 1, none⟩ (.bool true))) := hb8.out.setCell (by exact hr8.1) _
      clear ho8 hg8 hn8 hR8 hR9 h2W
      go_upto_region 17 with fail
      generalize (w8.setCell ⟨r8, j * 2 + 1, none⟩ (.bool true)) = w9 at hR9' hb9 ⊢
      clear c8c c8u hb8
      have hW9 : Hid (RowS w9 wr.heap.size r5 c5 (wideL ss j)) := rowS_keep hR6'.out (hb9.out.block r5 hr6.2)
      have hbr9 : Hid (Below wr.heap.size wr w9) := hb6.out.trans (hb9.out.mono hb6.out.size)
      have hG9 : Hid (USt A (.string (strT xa)) (.slice aa (kidsOf xa).length ca) xa w9) := hGr.out.below hbr9.out
      have h29 : Hid (Below w2.heap.size w2 w9) := h2r.out.trans (hbr9.out.mono h2r.out.size)
      have hwl : (wideL ss j).length = ss.length := by simp [wideL]
      have hdl : (deepL ss j).length = ss.length := by simp [deepL]
      have hWs : Hid (∀ w', Below w9.heap.size w9 w' → SeqAt 2 StepAt w' wr.heap.size (.slice (some ⟨r5, 0, none⟩) ss.length c5) (wideL ss j)) := fun w' h => by
        have q := seq_of_rowS hW9.out (by omega) (tags_ok htk'.out (Nat.zero_le _))
        rw [hwl] at q
        exact q.below StepAt_stays h
      have hDs : Hid (∀ w', Below w9.heap.size w9 w' → SeqAt 2 StepAt w' w6.heap.size (.slice (some ⟨r8, 0, none⟩) ss.length c8) (deepL ss j)) := fun w' h => by
        have q := seq_of_rowS hR9'.out (by omega) (tags_ok htk'.out (stL_ok htk'.out hlt))
        rw [hdl] at q
        exact q.below StepAt_stays h
      clear hwl hdl hR9' hR6' hb6 hb9 h26 hbr9 hW9
      obtain ⟨a0, a1⟩ := USt.cells hG9.out
      rcases two_b im with rfl | rfl
      · go_wp2_with fail
        go_roundw
        case rel => exact ⟨j + 1, by omega, by go_num, hG9, h29⟩
        case measure => simp [intOf]; omega
      · go_wp2_with fail
        refine (implMatches_any (n := 4) (by exact hG9.out.1) (by exact hpa'.out _ h29.out) hpl'.out (by exact hWs.out _ (Below.refl _ _))).mono ?_
        rintro e w12 ⟨rfl, hb12⟩
        rw [match_wide hlt him.out]
        have hG12 : Hid (USt A (.string (strT xa)) (.slice aa (kidsOf xa).length ca) xa w12) := hG9.out.below hb12
        have h212 : Hid (Below w2.heap.size w2 w12) := h29.out.trans (hb12.mono h29.out.size)
        have hDs12 : Hid (SeqAt 2 StepAt w12 w6.heap.size (.slice (some ⟨r8, 0, none⟩) ss.length c8) (deepL ss j)) := hDs.out _ hb12
        clear hb12 hG9 h29 hWs hDs a0 a1
        obtain ⟨a0, a1⟩ := USt.cells hG12.out
        go_wp2_with fail
        refine (implMatches_any (n := 4) (by exact hG12.out.1) (by exact hpa'.out _ h212.out) hpl'.out (by exact hDs12.out)).mono ?_
        rintro e w13 ⟨rfl, hb13⟩
        rw [match_deep hlt him.out]
        have hG13 : Hid (USt A (.string (strT xa)) (.slice aa (kidsOf xa).length ca) xa w13) := hG12.out.below hb13
        have h213 : Hid (Below w2.heap.size w2 w13) := h212.out.trans (hb13.mono h212.out.size)
        clear hb13 hG12 h212 a0 a1
        go_wp2_with fail
        go_roundw
        case rel => exact ⟨j + 1, by omega, by go_num, hG13, h213⟩
        case measure => simp [intOf]; omega
    · obtain ⟨a0, a1⟩ := USt.cells hGr.out
      obtain ⟨_, hsp1, hsp5⟩ := selB_steps2 hsb'.out
      obtain ⟨m, hm⟩ : ∃ m, m + 1 = ss.length := ⟨ss.length - 1, by omega⟩
      have hml : m < ss.length := by omega
      have hmi : ((ss.length : Int) - 1) = (m : Int) := by omega
      have hlast : Hid (stL ss (ss.length - 1) = stL ss m) := by show _ = _; congr 1; omega
      have ctag : wr.cell? ⟨rs, m * 2, none⟩ = some (.string (stL ss m).vTag) := by
        obtain ⟨a', cap', e, _, hx⟩ := hsl'.out _ h2r.out
        injection e with e1 _ e3
        subst e1 e3
        obtain ⟨b', o', e, _, _, hc⟩ := hx (by omega)
        injection e with e
        injection e with e1 e2 _
        subst e1 e2
        obtain ⟨cs', _, lie, rfl, _⟩ := hc m hml
        have := lie 0 (by simp)
        rw [stL_get hml]
        simpa using this
      have htm : Hid ((stL ss m).vTag.size ≤ maxLen) := by show _ ≤ _; have := stL_ok htk'.out hml; unfold maxLen; omega
      obtain rfl : j = ss.length := by omega
      clear hlt
      rcases two_b im with rfl | rfl
      · go_wp2_with fail
        refine wp_region_held_drew (S := fun w' => w'.cell? ⟨A, 0, none⟩ = some (.string (strT xa)) ∧ w'.cell? ⟨A, 1, none⟩ = some (.slice aa (kidsOf xa).length ca)) (by kernel_rfl) ⟨a0, a1⟩ (fun hHeld => ?_)
        refine take_lit (i := 0) (d := 94) (v := ?_) rfl rfl (by kernel_rfl) (by kernel_rfl) (by kernel_rfl) (fun _ _ _ h => h) (Or.inl ⟨by rfl, ?_⟩) (by assumption) ?_
        rotate_left
        · (intro w hSw; (try dsimp only at hSw); first | (go_simp; done) | (go_simp; with_reducible rfl))
        simp only [List.set_cons_zero, List.set_cons_succ]
        refine take_lit (i := 1) (d := 95) (v := ?_) rfl rfl (by kernel_rfl) (by kernel_rfl) (by kernel_rfl) (fun _ _ _ h => h) (Or.inl ⟨by rfl, ?_⟩) (by assumption) ?_
        rotate_left
        · (intro w hSw; (try dsimp only at hSw); first | (go_simp; done) | (go_simp; with_reducible rfl))
        simp only [List.set_cons_zero, List.set_cons_succ]
        refine take_lit (i := 2) (d := 96) (v := ?_) rfl rfl (by kernel_rfl) (by kernel_rfl) (by kernel_rfl) (fun _ _ _ h => h) (Or.inl ⟨by rfl, ?_⟩) (by assumption) ?_
        rotate_left
        · (intro w hSw; (try dsimp only at hSw); first | (go_simp; done) | (go_simp; with_reducible rfl))
        simp only [List.set_cons_zero, List.set_cons_succ]
        refine take_lit (i := 3) (d := 97) (v := undef) rfl rfl (by kernel_rfl) (by kernel_rfl) (by kernel_rfl) (fun _ _ _ h => h) (Or.inr ⟨by rfl, rfl⟩) (by assumption) ?_
        simp only [List.set_cons_zero, List.set_cons_succ]
        refine take_lit (i := 4) (d := 98) (v := undef) rfl rfl (by kernel_rfl) (by kernel_rfl) (by kernel_rfl) (fun _ _ _ h => h) (Or.inr ⟨by rfl, rfl⟩) (by assumption) ?_
        simp only [List.set_cons_zero, List.set_cons_succ]
        refine take_lit (i := 5) (d := 99) (v := undef) rfl rfl (by kernel_rfl) (by kernel_rfl) (by kernel_rfl) (fun _ _ _ h => h) (Or.inr ⟨by rfl, rfl⟩) (by assumption) ?_
        simp only [List.set_cons_zero, List.set_cons_succ]
        refine take_lit (i := 6) (d := 100) (v := undef) rfl rfl (by kernel_rfl) (by kernel_rfl) (by kernel_rfl) (fun _ _ _ h => h) (Or.inr ⟨by rfl, rfl⟩) (by assumption) ?_
        simp only [List.set_cons_zero, List.set_cons_succ]
        refine take_lit (i := 7) (d := 101) (v := undef) rfl rfl (by kernel_rfl) (by kernel_rfl) (by kernel_rfl) (fun _ _ _ h => h) (Or.inr ⟨by rfl, rfl⟩) (by assumption) ?_
        simp only [List.set_cons_zero, List.set_cons_succ]
        refine take_lit (i := 8) (d := 102) (v := undef) rfl rfl (by kernel_rfl) (by kernel_rfl) (by kernel_rfl) (fun _ _ _ h => h) (Or.inr ⟨by rfl, rfl⟩) (by assumption) ?_
        simp only [List.set_cons_zero, List.set_cons_succ]
        refine take_lit (i := 9) (d := 103) (v := undef) rfl rfl (by kernel_rfl) (by kernel_rfl) (by kernel_rfl) (fun _ _ _ h => h) (Or.inr ⟨by rfl, rfl⟩) (by assumption) ?_
        simp only [List.set_cons_zero, List.set_cons_succ]
        refine take_lit (i := 10) (d := 104) (v := undef) rfl rfl (by kernel_rfl) (by kernel_rfl) (by kernel_rfl) (fun _ _ _ h => h) (Or.inr ⟨by rfl, rfl⟩) (by assumption) ?_
        simp only [List.set_cons_zero, List.set_cons_succ]
        refine take_lit (i := 11) (d := 105) (v := undef) rfl rfl (by kernel_rfl) (by kernel_rfl) (by kernel_rfl) (fun _ _ _ h => h) (Or.inr ⟨by rfl, rfl⟩) (by assumption) ?_
        simp only [List.set_cons_zero, List.set_cons_succ]
        refine take_lit (i := 12) (d := 106) (v := undef) rfl rfl (by kernel_rfl) (by kernel_rfl) (by kernel_rfl) (fun _ _ _ h => h) (Or.inr ⟨by rfl, rfl⟩) (by assumption) ?_
        simp only [List.set_cons_zero, List.set_cons_succ]
        refine take_lit (i := 13) (d := 107) (v := undef) rfl rfl (by kernel_rfl) (by kernel_rfl) (by kernel_rfl) (fun _ _ _ h => h) (Or.inr ⟨by rfl, rfl⟩) (by assumption) ?_
        simp only [List.set_cons_zero, List.set_cons_succ]
        refine take_lit (i := 14) (d := 108) (v := undef) rfl rfl (by kernel_rfl) (by kernel_rfl) (by kernel_rfl) (fun _ _ _ h => h) (Or.inr ⟨by rfl, rfl⟩) (by assumption) ?_
        simp only [List.set_cons_zero, List.set_cons_succ]
        refine take_lit (i := 15) (d := 109) (v := ?_) rfl rfl (by kernel_rfl) (by kernel_rfl) (by kernel_rfl) (fun _ _ _ h => h) (Or.inl ⟨by rfl, ?_⟩) (by assumption) ?_
        rotate_left
        · (intro w hSw; (try dsimp only at hSw); first | (go_simp; done) | (go_simp; with_reducible rfl))
        simp only [List.set_cons_zero, List.set_cons_succ]
        refine take_lit (i := 16) (d := 2) (v := ?_) rfl rfl (by kernel_rfl) (by kernel_rfl) (by kernel_rfl) (fun _ _ _ h => h) (Or.inl ⟨by rfl, ?_⟩) (by assumption) ?_
        rotate_left
        · (intro w hSw; (try dsimp only at hSw); first | (go_simp; done) | (go_simp; with_reducible rfl))
        simp only [List.set_cons_zero, List.set_cons_succ]
        refine wpAnyH_done (by kernel_rfl) ?_ _
        go_wp2_with fail
        go_ret
        exact ⟨rfl, (hB2.out.trans (h2r.out.mono hB2.out.size)).drew⟩
      · have hmlast : Hid (matchD (okB (szD 4 xa 30)) xa path [⟨(stL ss m).vTag, true⟩] = true) := by show _ = _; have := match_last him.out; rw [hlast.out] at this; exact this
        generalize (stL ss m).vTag = TG at ctag htm hmlast
        go_wp2_with fail
        refine wp_region_held_drew (S := fun w' => w'.cell? ⟨A, 0, none⟩ = some (.string (strT xa)) ∧ w'.cell? ⟨A, 1, none⟩ = some (.slice aa (kidsOf xa).length ca) ∧ w'.cell? ⟨rs, m * 2, none⟩ = some (.string TG)) (by kernel_rfl) ⟨a0, a1, ctag⟩ (fun hHeld => ?_)
        refine take_lit (i := 0) (d := 94) (v := ?_) rfl rfl (by kernel_rfl) (by kernel_rfl) (by kernel_rfl) (fun _ _ _ h => h) (Or.inl ⟨by rfl, ?_⟩) (by assumption) ?_
        rotate_left
        · (intro w hSw; (try dsimp only at hSw); first | (go_simp; done) | (go_simp; with_reducible rfl))
        simp only [List.set_cons_zero, List.set_cons_succ]
        refine take_lit (i := 1) (d := 95) (v := ?_) rfl rfl (by kernel_rfl) (by kernel_rfl) (by kernel_rfl) (fun _ _ _ h => h) (Or.inl ⟨by rfl, ?_⟩) (by assumption) ?_
        rotate_left
        · (intro w hSw; (try dsimp only at hSw); first | (go_simp; done) | (go_simp; with_reducible rfl))
        simp only [List.set_cons_zero, List.set_cons_succ]
        refine take_lit (i := 2) (d := 96) (v := ?_) rfl rfl (by kernel_rfl) (by kernel_rfl) (by kernel_rfl) (fun _ _ _ h => h) (Or.inl ⟨by rfl, ?_⟩) (by assumption) ?_
        rotate_left
        · (intro w hSw; (try dsimp only at hSw); first | (go_simp; done) | (go_simp; with_reducible rfl))
        simp only [List.set_cons_zero, List.set_cons_succ]
        refine take_lit (i := 3) (d := 97) (v := ?_) rfl rfl (by kernel_rfl) (by kernel_rfl) (by kernel_rfl) (fun _ _ _ h => h) (Or.inl ⟨by rfl, ?_⟩) (by assumption) ?_
        rotate_left
        · (intro w hSw; (try dsimp only at hSw); first | (go_simp; done) | (go_simp; with_reducible rfl))
        simp only [List.set_cons_zero, List.set_cons_succ]
        refine take_lit (i := 4) (d := 98) (v := ?_) rfl rfl (by kernel_rfl) (by kernel_rfl) (by kernel_rfl) (fun _ _ _ h => h) (Or.inl ⟨by rfl, ?_⟩) (by assumption) ?_
        rotate_left
        · (intro w hSw; (try dsimp only at hSw); first | (go_simp; done) | (go_simp; with_reducible rfl))
        simp only [List.set_cons_zero, List.set_cons_succ]
        refine take_lit (i := 5) (d := 99) (v := ?_) rfl rfl (by kernel_rfl) (by kernel_rfl) (by kernel_rfl) (fun _ _ _ h => h) (Or.inl ⟨by rfl, ?_⟩) (by assumption) ?_
        rotate_left
        · (intro w hSw; (try dsimp only at hSw); first | (go_simp; done) | (go_simp; with_reducible rfl))
        simp only [List.set_cons_zero, List.set_cons_succ]
        refine take_lit (i := 6) (d := 100) (v := ?_) rfl rfl (by kernel_rfl) (by kernel_rfl) (by kernel_rfl) (fun _ _ _ h => h) (Or.inl ⟨by rfl, ?_⟩) (by assumption) ?_
        rotate_left
        · (intro w hSw; (try dsimp only at hSw); first | (go_simp; done) | (go_simp; with_reducible rfl))
        simp only [List.set_cons_zero, List.set_cons_succ]
        refine take_lit (i := 7) (d := 101) (v := ?_) rfl rfl (by kernel_rfl) (by kernel_rfl) (by kernel_rfl) (fun _ _ _ h => h) (Or.inl ⟨by rfl, ?_⟩) (by assumption) ?_
        rotate_left
        · (intro w hSw; (try dsimp only at hSw); first | (go_simp; done) | (go_simp; with_reducible rfl))
        simp only [List.set_cons_zero, List.set_cons_succ]
        refine take_lit (i := 8) (d := 102) (v := .int .i64 (m : Int)) rfl rfl (by kernel_rfl) (by kernel_rfl) (by kernel_rfl) (fun _ _ _ h => h) (Or.inl ⟨by rfl, ?_⟩) (by assumption) ?_
        · (intro w hSw; (try dsimp only at hSw); go_simp; first | done | omega | (rw [IntKind.wrap_i64]; omega))
        simp only [List.set_cons_zero, List.set_cons_succ]
        refine take_lit (i := 9) (d := 103) (v := ?_) rfl rfl (by kernel_rfl) (by kernel_rfl) (by kernel_rfl) (fun _ _ _ h => h) (Or.inl ⟨by rfl, ?_⟩) (by assumption) ?_
        rotate_left
        · (intro w hSw; (try dsimp only at hSw); first | (go_simp; done) | (go_simp; with_reducible rfl))
        simp only [List.set_cons_zero, List.set_cons_succ]
        refine take_lit (i := 10) (d := 104) (v := ?_) rfl rfl (by kernel_rfl) (by kernel_rfl) (by kernel_rfl) (fun _ _ _ h => h) (Or.inl ⟨by rfl, ?_⟩) (by assumption) ?_
        rotate_left
        · (intro w hSw; (try dsimp only at hSw); first | (go_simp; done) | (go_simp; with_reducible rfl))
        simp only [List.set_cons_zero, List.set_cons_succ]
        refine take_lit (i := 11) (d := 105) (v := ?_) rfl rfl (by kernel_rfl) (by kernel_rfl) (by kernel_rfl) (fun _ _ _ h => h) (Or.inl ⟨by rfl, ?_⟩) (by assumption) ?_
        rotate_left
        · (intro w hSw; (try dsimp only at hSw); first | (go_simp; done) | (go_simp; with_reducible rfl))
        simp only [List.set_cons_zero, List.set_cons_succ]
        refine take_lit (i := 12) (d := 106) (v := ?_) rfl rfl (by kernel_rfl) (by kernel_rfl) (by kernel_rfl) (fun _ _ _ h => h) (Or.inl ⟨by rfl, ?_⟩) (by assumption) ?_
        rotate_left
        · (intro w hSw; (try dsimp only at hSw); first | (go_simp; done) | (go_simp; with_reducible rfl))
        simp only [List.set_cons_zero, List.set_cons_succ]
        refine wpAnyH_ready (rs := [13]) (by kernel_rfl) (by simp) ?_
        refine AllReadyH.cons rfl (fun K hK => ?_) AllReadyH.nil
        go_simp
        have kA : Hid (Below wr.heap.size wr (World.alloc wr.drew (.cells #[.string TG, .bool true] 49))) := (Below.refl _ _).drew.alloc (Nat.le_refl _) _
        refine hK.out _ _ ⟨cell_on ((Below.refl _ _).alloc (Nat.le_refl _) _) hHeld.1, cell_on ((Below.refl _ _).alloc (Nat.le_refl _) _) hHeld.2.1, cell_on ((Below.refl _ _).alloc (Nat.le_refl _) _) hHeld.2.2⟩ (fun hHeld => ?_)
        clear hK K
        refine wpAnyH_ready (rs := [14]) (by kernel_rfl) (by simp) ?_
        refine AllReadyH.cons rfl (fun K hK => ?_) AllReadyH.nil
        go_simp
        refine (implMatches_any (n := 4) (by exact (hGr.out.below kA.out).1) (by exact hpa'.out _ (h2r.out.trans (kA.out.mono h2r.out.size))) hpl'.out (by exact one_seq htm.out)).mono ?_
        rintro e wB ⟨rfl, hbB⟩
        rw [hmlast.out]
        have kB : Hid (Below wr.heap.size wr wB) := kA.out.trans (hbB.mono kA.out.size)
        refine hK.out _ _ ⟨cell_on hbB hHeld.1, cell_on hbB hHeld.2.1, cell_on hbB hHeld.2.2⟩ (fun hHeld => ?_)
        clear hK K
        refine take_lit (i := 15) (d := 109) (v := ?_) rfl rfl (by kernel_rfl) (by kernel_rfl) (by kernel_rfl) (fun _ _ _ h => h) (Or.inl ⟨by rfl, ?_⟩) (by assumption) ?_
        rotate_left
        · (intro w hSw; (try dsimp only at hSw); first | (go_simp; done) | (go_simp; with_reducible rfl))
        simp only [List.set_cons_zero, List.set_cons_succ]
        refine take_lit (i := 16) (d := 2) (v := ?_) rfl rfl (by kernel_rfl) (by kernel_rfl) (by kernel_rfl) (fun _ _ _ h => h) (Or.inl ⟨by rfl, ?_⟩) (by assumption) ?_
        rotate_left
        · (intro w hSw; (try dsimp only at hSw); first | (go_simp; done) | (go_simp; with_reducible rfl))
        simp only [List.set_cons_zero, List.set_cons_succ]
        refine wpAnyH_done (by kernel_rfl) ?_ _
        go_wp2_with fail
        go_ret
        exact ⟨rfl, hB2.out.trans ((h2r.out.trans (kB.out.mono h2r.out.size)).mono hB2.out.size)⟩
end Go.Proofs.Ytgmgbjeejlkdmaa.fnNarrower
