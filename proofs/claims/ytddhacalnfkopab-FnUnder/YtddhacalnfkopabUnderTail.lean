/- The end of FnUnder: every kid's paths, one by one. -/
import Derived.Test.YtddhacalnfkopabUnderWalk
namespace Go.Proofs.Ytddhacalnfkopab.fnUnder
open Go.RowKit Go.Deep
set_option maxRecDepth 100000 in
set_option maxHeartbeats 8000000 in
theorem tail_any {w0 wc : World} {A : Nat} {sa : ByteArray} {aa : Option Addr} {ca : Nat} {xa : TD} {x0 x1 x2 y9 y10 y11 y12 y13 y14 y15 y16 y17 y18 y19 y20 y21 y22 : Value} (hok : Hid (okB (szD 4 xa 30) = true)) (hG : Hid (USt A (.string sa) (.slice aa (kidsOf xa).length ca) xa wc)) (hB : Hid (Below w0.heap.size w0 wc)) :
    Code.wp Try.prog (codeAt 4) (bodyPost Try.prog Try.f3 fun e w' => e = .returned (.bool true) ∧ Below w0.heap.size w0 w') ⟨#[x0, x1, x2, .pointer (some ⟨A, 0, none⟩), undef, undef, undef, undef, undef, y9, y10, y11, y12, y13, y14, y15, y16, y17, y18, y19, y20, y21, y22, undef, undef, undef, undef, undef, undef, undef, undef, undef, undef, undef, undef, undef, undef, undef, undef, undef, undef, undef, undef, undef, undef, undef, undef, undef, undef, undef, undef, undef, undef, undef, undef, undef, undef, undef, undef, undef, undef, undef, undef, undef, undef, undef, undef, undef, undef, undef, undef, undef, undef, undef, undef, undef, undef, undef, undef, undef, undef, undef, undef, undef, undef, undef, undef, undef, undef, undef, undef, undef, undef, undef, undef, undef], []⟩ wc := by
  conv => arg 2; whnf
  obtain ⟨a0, a1⟩ := USt.cells hG.out
  go_wp2_with fail
  refine (implPathsOf_any (n := 4) (by exact hG.out.1)).mono ?_
  rintro e w1 ⟨⟨va, fs, rfl, hs, _, _⟩, hb1⟩
  rw [pathsOfD_yes hok.out] at hs
  have hall : Hid (SeqAt 1 IntsAt w1 0 va (pathsD 4 xa [])) := hs.at IntsOwn_at (fun _ _ => Nat.zero_le _)
  have hG1 : Hid (USt A (.string sa) (.slice aa (kidsOf xa).length ca) xa w1) := hG.out.below hb1
  have hB1 : Hid (Below w0.heap.size w0 w1) := hB.out.trans (hb1.mono hB.out.size)
  clear hs hb1 hG hB a0 a1
  have hLp : Hid ((pathsD 4 xa []).length = 1 + (pathsJ 3 xa [] (kidsOf xa).length).length) := by show _ = _; rw [pathsD_succ, List.length_cons]; omega
  have hL30 : (pathsD 4 xa []).length ≤ 30 := by rw [pathsD_len]; exact (right_of_ok2 hok.out).cntT 4
  have hK30 : (kidsOf xa).length ≤ 30 := (right_of_ok2 hok.out).few
  obtain ⟨ba, oa, capa, rfl⟩ := ints_form hall.out (by have := hLp.out; omega)
  go_wp2_with fail
  go_loopw [5, 6] (fun at_ i wr => ∃ (j z : Nat), j ≤ (kidsOf xa).length ∧ i = .int .i64 j ∧ at_ = .int .i64 z ∧ Hid (z = 1 + (pathsJ 3 xa [] j).length) ∧ Hid (USt A (.string sa) (.slice aa (kidsOf xa).length ca) xa wr) ∧ Hid (SeqAt 1 IntsAt wr 0 (.slice (some ⟨ba, oa, none⟩) (pathsD 4 xa []).length capa) (pathsD 4 xa [])) ∧ Hid (Below w0.heap.size w0 wr)) (fun _ i _ => (kidsOf xa).length - (intOf i).toNat)
  case atStart => exact ⟨0, 1, Nat.zero_le _, rfl, rfl, by rw [pathsJ_zero]; rfl, hG1, hall, hB1⟩
  case round =>
    obtain ⟨j, z, hj, rfl, rfl, hz, hGr, halr, hBr⟩ := hrel
    obtain ⟨a0, a1⟩ := USt.cells hGr.out
    by_cases hlt : j < (kidsOf xa).length
    · obtain ⟨bk, ok, t', k', rfl, hbk, k0, k1, htk⟩ := hGr.out.1.kid (p := j) hlt
      have htk' : Hid (TreeAt wr 0 3 t' k' (nth (kidsOf xa) j)) := htk
      have hokk : Hid (okB (szD 3 (nth (kidsOf xa) j) 30) = true) := kid_ok hok.out hlt
      have hPJ : Hid (pathsJ 3 xa [] (j + 1) = pathsJ 3 xa [] j ++ pathsD 3 (nth (kidsOf xa) j) ([] ++ [(j : Int)])) := pathsJ_succ 3 xa [] j
      have hat : Hid (∀ k, k < (pathsD 3 (nth (kidsOf xa) j) []).length → ∃ h : 1 + (pathsJ 3 xa [] j).length + k < (pathsD 4 xa []).length, (pathsD 4 xa [])[1 + (pathsJ 3 xa [] j).length + k]? = some ((j : Int) :: (pathsD 3 (nth (kidsOf xa) j) []).getD k [])) := fun k hk => by
        obtain ⟨h, e⟩ := under_at (n := 3) (d := xa) hlt hk
        refine ⟨h, ?_⟩
        rw [List.getElem?_eq_getElem h, e]
        rw [List.getD, List.getElem?_eq_getElem hk, Option.getD_some]
      have hlen : Hid ((pathsD 3 (nth (kidsOf xa) j) ([] ++ [(j : Int)])).length = (pathsD 3 (nth (kidsOf xa) j) []).length) := by show _ = _; rw [pathsD_len, pathsD_len]
      generalize nth (kidsOf xa) j = Y at htk' hokk hPJ hat hlen
      obtain ⟨⟨sy, rfl⟩, ay, cy, rfl⟩ := htk'.out.form
      have hlt' : (j : Int) < ((kidsOf xa).length : Int) := by omega
      have hj0 : (0 : Int) ≤ (j : Int) := by omega
      clear htk
      go_wp2_with fail
      refine (implPathsOf_any (n := 3) (by exact htk'.out)).mono ?_
      rintro e w2 ⟨⟨vp, fp, rfl, hs, _, _⟩, hb2⟩
      rw [pathsOfD_yes hokk.out] at hs
      have hkid : Hid (SeqAt 1 IntsAt w2 0 vp (pathsD 3 Y [])) := hs.at IntsOwn_at (fun _ _ => Nat.zero_le _)
      have hG2 : Hid (USt A (.string sa) (.slice (some ⟨bk, ok, none⟩) (kidsOf xa).length ca) xa w2) := hGr.out.below hb2
      have hal2 : Hid (SeqAt 1 IntsAt w2 0 (.slice (some ⟨ba, oa, none⟩) (pathsD 4 xa []).length capa) (pathsD 4 xa [])) := halr.out.below IntsAt_stays hb2
      have hB2 : Hid (Below w0.heap.size w0 w2) := hBr.out.trans (hb2.mono hBr.out.size)
      have hn0 : Hid (0 < (pathsD 3 Y []).length) := by show 0 < _; rw [pathsD_succ]; simp
      have hP30 : (pathsD 3 Y []).length ≤ 30 := by rw [pathsD_len]; exact (right_of_ok2 hokk.out).cntT 3
      obtain ⟨bp, op, capp, rfl⟩ := ints_form hkid.out hn0.out
      clear hs hb2 hGr halr hBr a0 a1 k0 k1 htk'
      go_wp2_with fail
      go_loopw [5, 8] (fun at_ i wi => ∃ (k u m : Nat), k ≤ (pathsD 3 Y []).length ∧ i = .int .i64 k ∧ at_ = .int .i64 u ∧ Hid (u = z + k) ∧ wi = w2.drewN m) (fun _ i _ => (pathsD 3 Y []).length - (intOf i).toNat)
      case atStart => exact ⟨0, z, 0, Nat.zero_le _, rfl, rfl, rfl, rfl⟩
      case round =>
        obtain ⟨k, u, m, hk, rfl, rfl, hu, rfl⟩ := hrel
        by_cases hkl : k < (pathsD 3 Y []).length
        · obtain ⟨hal, hae⟩ := hat.out k hkl
          have hzu : u = 1 + (pathsJ 3 xa [] j).length + k := by have := hu.out; have := hz.out; omega
          rw [← hzu] at hal hae
          obtain ⟨kq, cq, hq⟩ := ints_pick hkid.out hkl
          obtain ⟨ka, cA, hA⟩ := ints_pick hal2.out hal
          rw [List.getElem?_eq_getElem hal] at hae
          rw [Option.some.inj hae] at hA
          have eQ : (pathsD 3 Y []).getD k [] = (pathsD 3 Y [])[k] := by rw [List.getD, List.getElem?_eq_getElem hkl, Option.getD_some]
          rw [eQ] at hA
          clear hae eQ
          generalize (pathsD 3 Y [])[k] = Q at hq hA
          obtain ⟨b2, o2, cap2, a2, rfl, c2, hQm, hcut, hT⟩ := seq_tail hA
          obtain ⟨aq, capq, rfl⟩ := hq.form
          have hcall : Hid (∀ (y : Nat), Calls Try.prog 14 #[.slice a2 Q.length (cap2 - 1), .slice aq Q.length capq] (w2.drewN y) fun e w' => e = .returned (.bool true) ∧ ∃ k, w' = (w2.drewN y).drewN k) := fun y => samePath_yes (hT.below intAt_stays (belowN_drew (Below.refl _ _) y)) (hq.below intAt_stays (belowN_drew (Below.refl _ _) y))
          clear hA hq hT
          unfold maxLen at hQm
          generalize Q.length = nq' at hQm hcut hcall cq cA
          have hw : IntKind.i64.wrap ((nq' : Int) + 1) = (nq' : Int) + 1 := by rw [IntKind.wrap_i64]; omega
          have hu1 : (u : Int) < ((pathsD 4 xa []).length : Int) := by omega
          have hu2 : ¬ ((pathsD 4 xa []).length : Int) ≤ (u : Int) := by omega
          have hu0 : (0 : Int) ≤ (u : Int) := by omega
          have hk1 : (k : Int) < ((pathsD 3 Y []).length : Int) := by omega
          have hk0 : (0 : Int) ≤ (k : Int) := by omega
          clear hzu
          go_wp2_with fail
          go_quiet (first | (go_at_call 14; exact qat (hcall.out _)))
          go_wp2_with fail
          go_roundw
          case rel => exact ⟨k + 1, u + 1, m + nq, by omega, by go_num, by go_num, by have := hu.out; show _ = _; omega, by first | rfl | exact World.drewN_drewN _ _ _⟩
          case measure => simp [intOf]; omega
        · obtain rfl : k = (pathsD 3 Y []).length := by omega
          go_wp2_with fail
          go_roundw
          case rel =>
            refine ⟨j + 1, u, by omega, by go_num, rfl, ?_, ?_, ?_, ?_⟩
            · have := hu.out; have := hz.out; have := hlen.out; show _ = _; rw [hPJ.out, List.length_append]; omega
            · exact hG2.out.below (belowN_drew (Below.refl _ _) m)
            · exact hal2.out.below IntsAt_stays (belowN_drew (Below.refl _ _) m)
            · exact belowN_drew hB2.out m
          case measure => simp [intOf]; omega
    · obtain rfl : j = (kidsOf xa).length := by omega
      obtain rfl : z = (pathsD 4 xa []).length := by have := hz.out; have := hLp.out; omega
      go_wp2_with fail
      go_ret
      exact ⟨by simp, hBr.out⟩
end Go.Proofs.Ytddhacalnfkopab.fnUnder
