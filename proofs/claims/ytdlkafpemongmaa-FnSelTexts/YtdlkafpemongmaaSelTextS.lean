/- SelText of the specification, walked. -/
import Derived.Test.YtdlkafpemongmaaSelTextI
namespace Go.Proofs.Ytdlkafpemongmaa
open Go.RowKit
theorem joinT_more {l : List StepD} {j : Nat} (h : j < l.length) {a s t : ByteArray} (ha : a.data.toList = joinT (l.take j)) (hs : s.data.toList = (if 0 < j then [32] else [])) (ht : t = stepT l[j]) : (a ++ s ++ t).data.toList = joinT (l.take (j + 1)) := by
  rw [joinT_take l j h, stx_app, stx_app, ha, hs, ht, List.append_assoc]
set_option maxRecDepth 100000 in
set_option maxHeartbeats 4000000 in
theorem specSelText_any {w : World} {lo : Nat} {k : Value} {l : List StepD} (hk : SeqAt 2 StepAt w lo k l) :
    Calls Try.prog 9 #[k] w fun e w' => e = .returned (.string (selT l)) ∧ Below w.heap.size w w' := by
  have hk' : Hid (SeqAt 2 StepAt w lo k l) := hk
  obtain ⟨a, cap, rfl⟩ := hk.form
  clear hk
  go_enter Try.func9, Try.ntmps9
  go_wp2_with fail
  refine (specSelOk_any hk'.out).mono ?_
  rintro e w1 ⟨rfl, hb1⟩
  have hB1 : Hid (Below w.heap.size w w1) := hb1
  have hk1 : Hid (SeqAt 2 StepAt w1 lo (.slice a l.length cap) l) := hk'.out.below StepAt_stays hb1
  clear hb1 hk'
  rcases (by cases selB l <;> simp : selB l = false ∨ selB l = true) with hs | hs
  · have H : Hid (selT l = ⟨#[]⟩) := by show _ = _; unfold selT; rw [hs]; rfl
    rw [hs]
    clear hs
    go_wp2_with fail
    go_ret
    exact ⟨by rw [H.out]; rfl, hB1.out⟩
  have H : Hid (selT l = ⟨(joinT l).toArray⟩) := by show _ = _; unfold selT; rw [hs]; rfl
  obtain ⟨hl1, hl5, hst⟩ := selB_parts hs
  have hst' : Hid (stepsB l = true) := hst
  rw [hs]
  clear hs hst
  obtain ⟨a', cap', e, hm, hx⟩ := hk1.out
  injection e with e1 _ e3
  subst e1 e3
  obtain ⟨b, off, rfl, hlo, hbw, hc⟩ := hx (by omega)
  have hc' : Hid (∀ i, (h : i < l.length) → ∃ cs, cs.length = 2 ∧ Lie w1 b (off + i * 2) cs ∧ StepAt w1 lo cs l[i]) := hc
  clear hc hx hk1
  go_wp2_with fail
  go_loopw [3, 4] (fun v i wr => ∃ (j : Nat) (acc : ByteArray), j ≤ l.length ∧ i = .int .i64 j ∧ v = .string acc ∧ Hid (acc.data.toList = joinT (l.take j)) ∧ wr = w1) (fun _ i _ => l.length - (intOf i).toNat)
  case atStart => exact ⟨0, _, by omega, rfl, rfl, rfl, rfl⟩
  case round =>
    obtain ⟨j, acc, hj, rfl, rfl, hacc, rfl⟩ := hrel
    by_cases hlt : j < l.length
    · obtain ⟨cs, hcl, lie, rfl, _, _⟩ := hc'.out j hlt
      have y0 := lie 0 (by simp)
      have y1 := lie 1 (by simp)
      simp only [List.getElem?_cons_zero, List.getElem?_cons_succ, Nat.add_zero] at y0 y1
      have hsb := stepsB_at hst'.out hlt
      have hmore : Hid (∀ {s t : ByteArray}, s.data.toList = (if 0 < j then [32] else []) → t = stepT l[j] → (acc ++ s ++ t).data.toList = joinT (l.take (j + 1))) := fun hs ht => joinT_more hlt hacc.out hs ht
      have hts := tagT_small hsb
      have hjs := joinT_small hst'.out j hj
      have has : acc.size ≤ 45 := by rw [← stx_len, hacc.out]; omega
      generalize l[j] = X at y0 y1 hmore hts
      have hlt' : (j : Int) < (l.length : Int) := by omega
      have hj0 : (0 : Int) ≤ (j : Int) := by omega
      have d1 : ¬ 9223372036854775807 < acc.size + 1 := by omega
      have d2 : ¬ 9223372036854775807 < acc.size + 2 := by omega
      have d3 : ¬ 9223372036854775807 < acc.size + 1 + 2 := by omega
      have d4 : ¬ 9223372036854775807 < acc.size + 1 + 1 := by omega
      have d5 : ¬ 9223372036854775807 < acc.size + 2 + 1 := by omega
      have d6 : ¬ 9223372036854775807 < acc.size + 1 + 2 + 1 := by omega
      clear lie hcl hsb hjs
      by_cases he : X.vTag = ⟨#[]⟩
      · have ht : Hid (tagT X = ⟨#[42]⟩) := by show _ = _; unfold tagT; rw [if_pos he]
        rw [he] at y0
        clear he hts
        rcases (by cases X.vDeep <;> simp : X.vDeep = false ∨ X.vDeep = true) with hx | hx
        · have hr : Hid (stepT X = ⟨#[62, 32]⟩ ++ ⟨#[42]⟩) := by show _ = _; unfold stepT; rw [hx, ht.out]; rfl
          rw [hx] at y1
          clear hx
          by_cases hz : j = 0
          · subst hz
            simp only [Nat.zero_mul, Nat.add_zero] at y0 y1
            go_wp2_with fail
            go_roundw
            case rel => exact ⟨1, _, by omega, by go_num, rfl, by show _ = _; have := hmore.out (s := ⟨#[]⟩) rfl hr.out.symm; simpa [stx_app] using this, trivial⟩
            case measure => simp [intOf]; omega
          · have hz' : (0 : Int) < (j : Int) := by omega
            go_wp2_with fail
            go_roundw
            case rel => exact ⟨j + 1, _, by omega, by go_num, rfl, by show _ = _; have := hmore.out (s := ⟨#[32]⟩) (by rw [if_pos (by omega)]) hr.out.symm; simpa [stx_app] using this, trivial⟩
            case measure => simp [intOf]; omega
        · have hr : Hid (stepT X = ⟨#[42]⟩) := by show _ = _; unfold stepT; rw [hx, ht.out]; rfl
          rw [hx] at y1
          clear hx
          by_cases hz : j = 0
          · subst hz
            simp only [Nat.zero_mul, Nat.add_zero] at y0 y1
            go_wp2_with fail
            go_roundw
            case rel => exact ⟨1, _, by omega, by go_num, rfl, by show _ = _; have := hmore.out (s := ⟨#[]⟩) rfl hr.out.symm; simpa [stx_app] using this, trivial⟩
            case measure => simp [intOf]; omega
          · have hz' : (0 : Int) < (j : Int) := by omega
            go_wp2_with fail
            go_roundw
            case rel => exact ⟨j + 1, _, by omega, by go_num, rfl, by show _ = _; have := hmore.out (s := ⟨#[32]⟩) (by rw [if_pos (by omega)]) hr.out.symm; simpa [stx_app] using this, trivial⟩
            case measure => simp [intOf]; omega
      · have ht : Hid (tagT X = X.vTag) := by show _ = _; unfold tagT; rw [if_neg he]
        rw [ht.out] at hts
        have hne := em_ne he
        have hne0 := em_list (fun q => he (em_eq q))
        have hne1 := em_no he
        have f1 : ¬ 9223372036854775807 < acc.size + X.vTag.size := by omega
        have f2 : ¬ 9223372036854775807 < acc.size + 1 + X.vTag.size := by omega
        have f3 : ¬ 9223372036854775807 < acc.size + 2 + X.vTag.size := by omega
        have f4 : ¬ 9223372036854775807 < acc.size + 1 + 2 + X.vTag.size := by omega
        clear he hts
        rcases (by cases X.vDeep <;> simp : X.vDeep = false ∨ X.vDeep = true) with hx | hx
        · have hr : Hid (stepT X = ⟨#[62, 32]⟩ ++ X.vTag) := by show _ = _; unfold stepT; rw [hx, ht.out]; rfl
          rw [hx] at y1
          clear hx
          by_cases hz : j = 0
          · subst hz
            simp only [Nat.zero_mul, Nat.add_zero] at y0 y1
            go_wp2_with fail
            go_roundw
            case rel => exact ⟨1, _, by omega, by go_num, rfl, by show _ = _; have := hmore.out (s := ⟨#[]⟩) rfl hr.out.symm; simpa [stx_app] using this, trivial⟩
            case measure => simp [intOf]; omega
          · have hz' : (0 : Int) < (j : Int) := by omega
            go_wp2_with fail
            go_roundw
            case rel => exact ⟨j + 1, _, by omega, by go_num, rfl, by show _ = _; have := hmore.out (s := ⟨#[32]⟩) (by rw [if_pos (by omega)]) hr.out.symm; simpa [stx_app] using this, trivial⟩
            case measure => simp [intOf]; omega
        · have hr : Hid (stepT X = X.vTag) := by show _ = _; unfold stepT; rw [hx, ht.out]; rfl
          rw [hx] at y1
          clear hx
          by_cases hz : j = 0
          · subst hz
            simp only [Nat.zero_mul, Nat.add_zero] at y0 y1
            go_wp2_with fail
            go_roundw
            case rel => exact ⟨1, _, by omega, by go_num, rfl, by show _ = _; have := hmore.out (s := ⟨#[]⟩) rfl hr.out.symm; simpa [stx_app] using this, trivial⟩
            case measure => simp [intOf]; omega
          · have hz' : (0 : Int) < (j : Int) := by omega
            go_wp2_with fail
            go_roundw
            case rel => exact ⟨j + 1, _, by omega, by go_num, rfl, by show _ = _; have := hmore.out (s := ⟨#[32]⟩) (by rw [if_pos (by omega)]) hr.out.symm; simpa [stx_app] using this, trivial⟩
            case measure => simp [intOf]; omega
    obtain rfl : j = l.length := by omega
    have hfin : Hid (acc = ⟨(joinT l).toArray⟩) := by
      show _ = _
      have := hacc.out
      rw [List.take_length] at this
      rw [← this, Lib.mk_data]
    go_wp2_with fail
    go_ret
    exact ⟨by rw [H.out, hfin.out]; rfl, hB1.out⟩
end Go.Proofs.Ytdlkafpemongmaa
