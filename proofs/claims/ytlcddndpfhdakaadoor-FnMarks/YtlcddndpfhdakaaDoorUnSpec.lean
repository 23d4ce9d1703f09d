/- Unescaped of the specification, walked. -/
import Derived.Test.YtlcddndpfhdakaaDoorUnImpl
import Derived.Deep.QuietTactic
import Derived.BigQuiet
namespace Go.Proofs.YtlcddndpfhdakaaDoor
open Go.RowKit
theorem u8_ne {c : UInt8} {n : Int} (h : (c.toNat : Int) = n) (hn : n ≠ 38) : ¬ c = 38 := by
  intro e
  rw [e] at h
  exact hn h.symm
theorem drop_cons (s : ByteArray) (k : Nat) (h : k < s.size) : s.data.toList.drop k = s[k] :: s.data.toList.drop (k + 1) :=
  List.drop_eq_getElem_cons (by simpa using h)
theorem pre_yes (s : ByteArray) (k : Nat) (p : List UInt8) (h : s.extract k (k + p.length) = ⟨p.toArray⟩) : preB p (s.data.toList.drop k) = true := by
  have e := eb_mid s k (k + p.length)
  rw [h, Nat.add_sub_cancel_left] at e
  simp [preB, ← e]
theorem pre_no (s : ByteArray) (k : Nat) (p : List UInt8) (h : ¬ s.extract k (k + p.length) = ⟨p.toArray⟩) : preB p (s.data.toList.drop k) = false := by
  have e := eb_mid s k (k + p.length)
  rw [Nat.add_sub_cancel_left] at e
  cases hq : preB p (s.data.toList.drop k)
  · rfl
  · exact absurd (eb_eq (e.trans (by simpa [preB] using hq))) h
theorem pre_short (s : ByteArray) (k : Nat) (p : List UInt8) (h : s.size < k + p.length) (hk : k < s.size) : preB p (s.data.toList.drop k) = false := by
  cases hq : preB p (s.data.toList.drop k)
  · rfl
  · have := preB_length hq
    rw [List.length_drop, eb_len] at this
    omega
/-- the two tables of the specification -/
abbrev tabS : Obj := .cells #[.string ⟨#[38, 97, 109, 112, 59]⟩, .string ⟨#[38, 108, 116, 59]⟩, .string ⟨#[38, 103, 116, 59]⟩, .string ⟨#[38, 113, 117, 111, 116, 59]⟩] 9
abbrev tabB : Obj := .cells #[.string ⟨#[38]⟩, .string ⟨#[60]⟩, .string ⟨#[62]⟩, .string ⟨#[34]⟩] 9
set_option maxRecDepth 100000 in
set_option maxHeartbeats 1000000 in
theorem specUnescaped_any (s : ByteArray) (w : World) (hs : s.size ≤ 1048576) :
    Calls Tryd.prog 65 #[.string s] w fun e w' => e = .returned (unV (unL s.data.toList)) ∧ Below w.heap.size w w' := by
  have hB0 : Hid (Below w.heap.size w ((w.alloc tabS).alloc tabB)) := ((Below.refl _ _).alloc (Nat.le_refl _) _).alloc (by simp) _
  go_enter Tryd.func65, Tryd.ntmps65
  go_wp2_with fail
  go_loopw [6, 7] (fun z i wr => ∃ (k : Nat) (acc : ByteArray), k ≤ s.size ∧ i = .int .i64 k ∧ z = .string acc ∧ Hid (acc.size ≤ k) ∧ Hid (Below (w.heap.size + 2) ((w.alloc tabS).alloc tabB) wr) ∧ Hid (unL s.data.toList = (unL (s.data.toList.drop k)).map (acc.data.toList ++ ·))) (fun _ i _ => s.size - (intOf i).toNat)
  case atStart => exact ⟨0, ⟨#[]⟩, by omega, rfl, rfl, Nat.le_refl _, Below.refl _ _, by show _ = _; simp⟩
  case round =>
    obtain ⟨k, acc, hk, rfl, rfl, hal, hbr, hun⟩ := hrel
    have hbw : Hid (Below w.heap.size w wr) := hB0.out.trans (hbr.out.mono (by omega))
    by_cases hlt : k < s.size
    · have hne : Hid (s.data.toList.drop k ≠ []) := by
        show _ ≠ _
        rw [drop_cons s k hlt]; simp
      have hdr : Hid (s.data.toList.drop k = s[k] :: s.data.toList.drop (k + 1)) := drop_cons s k hlt
      rcases byte_kinds s[k] with ⟨h, he⟩ | ⟨h, he⟩ | ⟨h, he⟩ | ⟨h, he⟩ | ⟨h1, h2, h3, h4, he⟩
      · clear he
        go_wp2_with fail
        go_loopw [6, 7, 8, 9] (fun z i f q wi => ∃ j : Nat, j ≤ 4 ∧ q = .int .i64 j ∧ Hid (Below (w.heap.size + 2) ((w.alloc tabS).alloc tabB) wi) ∧
          ((f = .bool false ∧ i = .int .i64 k ∧ z = .string acc ∧ Hid ((1 ≤ j → preB ampL (s.data.toList.drop k) = false) ∧ (2 ≤ j → preB ltL (s.data.toList.drop k) = false) ∧ (3 ≤ j → preB gtL (s.data.toList.drop k) = false) ∧ (4 ≤ j → preB quotL (s.data.toList.drop k) = false))) ∨
           (f = .bool true ∧ ∃ (c : UInt8) (m : Nat), Hid (firstU (s.data.toList.drop k) = some (c, m)) ∧ z = .string (acc ++ ⟨#[c]⟩) ∧ i = .int .i64 ((k : Int) + m)))) (fun _ _ _ q _ => 4 - (intOf q).toNat)
        case atStart => exact ⟨0, by omega, rfl, hbr, .inl ⟨rfl, rfl, rfl, by refine ⟨?_, ?_, ?_, ?_⟩ <;> (intro h; omega)⟩⟩
        case round =>
          obtain ⟨j, hj, rfl, hbi, HI⟩ := hrel
          have hdi : Hid (∀ q, Below (w.heap.size + 2) ((w.alloc tabS).alloc tabB) (wr.drewN q)) := fun q => ⟨hbi.out.os, hbi.out.tape, hbi.out.output, hbi.out.size, hbi.out.block⟩
          have hbwi : Hid (Below w.heap.size w wr) := hB0.out.trans (hbi.out.mono (by omega))
          rcases HI with ⟨rfl, rfl, rfl, HH⟩ | ⟨rfl, c, m, HF, rfl, rfl⟩
          · obtain ⟨N1, N2, N3, N4⟩ := HH.out
            clear HH
            match j, hj with
            | 0, _ =>
              clear N1 N2 N3 N4
              have c0 : wr.cell? ⟨w.heap.size, 0, none⟩ = some (.string ⟨#[38, 97, 109, 112, 59]⟩) := by rw [hbi.out.cell (by simp)]; simp [go_sem]
              have c1 : wr.cell? ⟨w.heap.size + 1, 0, none⟩ = some (.string ⟨#[38]⟩) := by rw [hbi.out.cell (by simp)]; simp [go_sem]
              by_cases hL : (5 : Int) ≤ (s.size : Int) - (k : Int)
              · have hsl : ∀ wz, (Instr.slice 9 (.string s) (some (.int .i64 k)) (some (.int .i64 ((k : Int) + 5))) none).run Tryd.prog wz = .ok (.string (s.extract k (k + 5))) wz := fun wz => by simpa using slice_run s k (k + 5) (by omega) (by omega) wz
                by_cases q : s.extract k (k + 5) = ⟨#[38, 97, 109, 112, 59]⟩
                · have HP : Hid _ := firstU_amp  (pre_yes s k ampL q)
                  rw [q] at hsl
                  clear q
                  have hd : ¬ 9223372036854775807 < acc.size + 1 := by have := hal.out; omega
                  go_wp2_with fail
                  go_quiet (fail)
                  go_wp2_with fail
                  go_roundw
                  case rel => exact ⟨1, by omega, by go_num, hdi.out _, .inr ⟨rfl, 38, 5, HP.out, rfl, by go_num⟩⟩
                  case measure => simp [intOf]
                · have HP : Hid (preB ampL (s.data.toList.drop k) = false) := pre_no s k ampL q
                  have hq : ((s.extract k (k + 5)).toList == [38, 97, 109, 112, 59]) = false := by simpa using eb_ne q
                  clear q
                  go_wp2_with fail
                  go_quiet (fail)
                  go_wp2_with fail
                  go_roundw
                  case rel => exact ⟨1, by omega, by go_num, hdi.out _, .inl ⟨rfl, rfl, rfl, fun _ => HP.out, fun h => by omega, fun h => by omega, fun h => by omega⟩⟩
                  case measure => simp [intOf]
              · have HP : Hid (preB ampL (s.data.toList.drop k) = false) := pre_short s k ampL (by simp; omega) hlt
                have hD : decide ((5 : Int) ≤ (s.size : Int) - (k : Int)) = false := by simpa using hL
                clear hL
                go_wp2_with fail
                go_quiet (fail)
                go_wp2_with fail
                go_roundw
                case rel => exact ⟨1, by omega, by go_num, hdi.out _, .inl ⟨rfl, rfl, rfl, fun _ => HP.out, fun h => by omega, fun h => by omega, fun h => by omega⟩⟩
                case measure => simp [intOf]
            | 1, _ =>
              have K1 : Hid _ := N1 (by omega)
              clear N1 N2 N3 N4
              have c0 : wr.cell? ⟨w.heap.size, 1, none⟩ = some (.string ⟨#[38, 108, 116, 59]⟩) := by rw [hbi.out.cell (by simp)]; simp [go_sem]
              have c1 : wr.cell? ⟨w.heap.size + 1, 1, none⟩ = some (.string ⟨#[60]⟩) := by rw [hbi.out.cell (by simp)]; simp [go_sem]
              by_cases hL : (4 : Int) ≤ (s.size : Int) - (k : Int)
              · have hsl : ∀ wz, (Instr.slice 9 (.string s) (some (.int .i64 k)) (some (.int .i64 ((k : Int) + 4))) none).run Tryd.prog wz = .ok (.string (s.extract k (k + 4))) wz := fun wz => by simpa using slice_run s k (k + 4) (by omega) (by omega) wz
                by_cases q : s.extract k (k + 4) = ⟨#[38, 108, 116, 59]⟩
                · have HP : Hid _ := firstU_lt K1.out (pre_yes s k ltL q)
                  rw [q] at hsl
                  clear q
                  have hd : ¬ 9223372036854775807 < acc.size + 1 := by have := hal.out; omega
                  go_wp2_with fail
                  go_quiet (fail)
                  go_wp2_with fail
                  go_roundw
                  case rel => exact ⟨2, by omega, by go_num, hdi.out _, .inr ⟨rfl, 60, 4, HP.out, rfl, by go_num⟩⟩
                  case measure => simp [intOf]
                · have HP : Hid (preB ltL (s.data.toList.drop k) = false) := pre_no s k ltL q
                  have hq : ((s.extract k (k + 4)).toList == [38, 108, 116, 59]) = false := by simpa using eb_ne q
                  clear q
                  go_wp2_with fail
                  go_quiet (fail)
                  go_wp2_with fail
                  go_roundw
                  case rel => exact ⟨2, by omega, by go_num, hdi.out _, .inl ⟨rfl, rfl, rfl, fun _ => K1.out, fun _ => HP.out, fun h => by omega, fun h => by omega⟩⟩
                  case measure => simp [intOf]
              · have HP : Hid (preB ltL (s.data.toList.drop k) = false) := pre_short s k ltL (by simp; omega) hlt
                have hD : decide ((4 : Int) ≤ (s.size : Int) - (k : Int)) = false := by simpa using hL
                clear hL
                go_wp2_with fail
                go_quiet (fail)
                go_wp2_with fail
                go_roundw
                case rel => exact ⟨2, by omega, by go_num, hdi.out _, .inl ⟨rfl, rfl, rfl, fun _ => K1.out, fun _ => HP.out, fun h => by omega, fun h => by omega⟩⟩
                case measure => simp [intOf]
            | 2, _ =>
              have K1 : Hid _ := N1 (by omega)
              have K2 : Hid _ := N2 (by omega)
              clear N1 N2 N3 N4
              have c0 : wr.cell? ⟨w.heap.size, 2, none⟩ = some (.string ⟨#[38, 103, 116, 59]⟩) := by rw [hbi.out.cell (by simp)]; simp [go_sem]
              have c1 : wr.cell? ⟨w.heap.size + 1, 2, none⟩ = some (.string ⟨#[62]⟩) := by rw [hbi.out.cell (by simp)]; simp [go_sem]
              by_cases hL : (4 : Int) ≤ (s.size : Int) - (k : Int)
              · have hsl : ∀ wz, (Instr.slice 9 (.string s) (some (.int .i64 k)) (some (.int .i64 ((k : Int) + 4))) none).run Tryd.prog wz = .ok (.string (s.extract k (k + 4))) wz := fun wz => by simpa using slice_run s k (k + 4) (by omega) (by omega) wz
                by_cases q : s.extract k (k + 4) = ⟨#[38, 103, 116, 59]⟩
                · have HP : Hid _ := firstU_gt K1.out K2.out (pre_yes s k gtL q)
                  rw [q] at hsl
                  clear q
                  have hd : ¬ 9223372036854775807 < acc.size + 1 := by have := hal.out; omega
                  go_wp2_with fail
                  go_quiet (fail)
                  go_wp2_with fail
                  go_roundw
                  case rel => exact ⟨3, by omega, by go_num, hdi.out _, .inr ⟨rfl, 62, 4, HP.out, rfl, by go_num⟩⟩
                  case measure => simp [intOf]
                · have HP : Hid (preB gtL (s.data.toList.drop k) = false) := pre_no s k gtL q
                  have hq : ((s.extract k (k + 4)).toList == [38, 103, 116, 59]) = false := by simpa using eb_ne q
                  clear q
                  go_wp2_with fail
                  go_quiet (fail)
                  go_wp2_with fail
                  go_roundw
                  case rel => exact ⟨3, by omega, by go_num, hdi.out _, .inl ⟨rfl, rfl, rfl, fun _ => K1.out, fun _ => K2.out, fun _ => HP.out, fun h => by omega⟩⟩
                  case measure => simp [intOf]
              · have HP : Hid (preB gtL (s.data.toList.drop k) = false) := pre_short s k gtL (by simp; omega) hlt
                have hD : decide ((4 : Int) ≤ (s.size : Int) - (k : Int)) = false := by simpa using hL
                clear hL
                go_wp2_with fail
                go_quiet (fail)
                go_wp2_with fail
                go_roundw
                case rel => exact ⟨3, by omega, by go_num, hdi.out _, .inl ⟨rfl, rfl, rfl, fun _ => K1.out, fun _ => K2.out, fun _ => HP.out, fun h => by omega⟩⟩
                case measure => simp [intOf]
            | 3, _ =>
              have K1 : Hid _ := N1 (by omega)
              have K2 : Hid _ := N2 (by omega)
              have K3 : Hid _ := N3 (by omega)
              clear N1 N2 N3 N4
              have c0 : wr.cell? ⟨w.heap.size, 3, none⟩ = some (.string ⟨#[38, 113, 117, 111, 116, 59]⟩) := by rw [hbi.out.cell (by simp)]; simp [go_sem]
              have c1 : wr.cell? ⟨w.heap.size + 1, 3, none⟩ = some (.string ⟨#[34]⟩) := by rw [hbi.out.cell (by simp)]; simp [go_sem]
              by_cases hL : (6 : Int) ≤ (s.size : Int) - (k : Int)
              · have hsl : ∀ wz, (Instr.slice 9 (.string s) (some (.int .i64 k)) (some (.int .i64 ((k : Int) + 6))) none).run Tryd.prog wz = .ok (.string (s.extract k (k + 6))) wz := fun wz => by simpa using slice_run s k (k + 6) (by omega) (by omega) wz
                by_cases q : s.extract k (k + 6) = ⟨#[38, 113, 117, 111, 116, 59]⟩
                · have HP : Hid _ := firstU_quot K1.out K2.out K3.out (pre_yes s k quotL q)
                  rw [q] at hsl
                  clear q
                  have hd : ¬ 9223372036854775807 < acc.size + 1 := by have := hal.out; omega
                  go_wp2_with fail
                  go_quiet (fail)
                  go_wp2_with fail
                  go_roundw
                  case rel => exact ⟨4, by omega, by go_num, hdi.out _, .inr ⟨rfl, 34, 6, HP.out, rfl, by go_num⟩⟩
                  case measure => simp [intOf]
                · have HP : Hid (preB quotL (s.data.toList.drop k) = false) := pre_no s k quotL q
                  have hq : ((s.extract k (k + 6)).toList == [38, 113, 117, 111, 116, 59]) = false := by simpa using eb_ne q
                  clear q
                  go_wp2_with fail
                  go_quiet (fail)
                  go_wp2_with fail
                  go_roundw
                  case rel => exact ⟨4, by omega, by go_num, hdi.out _, .inl ⟨rfl, rfl, rfl, fun _ => K1.out, fun _ => K2.out, fun _ => K3.out, fun _ => HP.out⟩⟩
                  case measure => simp [intOf]
              · have HP : Hid (preB quotL (s.data.toList.drop k) = false) := pre_short s k quotL (by simp; omega) hlt
                have hD : decide ((6 : Int) ≤ (s.size : Int) - (k : Int)) = false := by simpa using hL
                clear hL
                go_wp2_with fail
                go_quiet (fail)
                go_wp2_with fail
                go_roundw
                case rel => exact ⟨4, by omega, by go_num, hdi.out _, .inl ⟨rfl, rfl, rfl, fun _ => K1.out, fun _ => K2.out, fun _ => K3.out, fun _ => HP.out⟩⟩
                case measure => simp [intOf]
            | 4, _ =>
              have HF : Hid (firstU (s.data.toList.drop k) = none) := by
                show _ = _
                have e1 := N1 (by omega)
                have e2 := N2 (by omega)
                have e3 := N3 (by omega)
                have e4 := N4 (by omega)
                rw [hdr.out] at e1 e2 e3 e4 ⊢
                rw [firstU_else e1 e2 e3 e4, if_pos (bareB_yes (.inl h))]
              have HN : Hid _ := unL_no hun.out hne.out HF.out
              clear N1 N2 N3 N4
              go_wp2_with fail
              go_ret2
              exact ⟨by rw [HN.out]; rfl, hbwi.out⟩
          · have HN : Hid _ := unL_step hun.out HF.out
            have hr := firstU_range HF.out
            rw [List.length_drop, eb_len] at hr
            by_cases hj4 : (j : Int) < 4
            all_goals
              go_wp2_with fail
              go_roundw
              case rel => exact ⟨k + m, acc ++ ⟨#[c]⟩, by omega, by go_num, rfl, by show _ ≤ _; have := hal.out; rw [ByteArray.size_append]; show _ + 1 ≤ _; omega, hbi, by show _ = _; rw [eb_app, HN.out, List.drop_drop]⟩
              case measure => simp [intOf]; omega
      · have HF : Hid (firstU (s.data.toList.drop k) = none) := by
          show _ = _
          rw [hdr.out, firstU_other (u8_ne h (by decide)), if_pos (bareB_yes (.inr (.inl h)))]
        have HN : Hid _ := unL_no hun.out hne.out HF.out
        clear he
        go_wp2_with fail
        go_ret2
        exact ⟨by rw [HN.out]; rfl, hbw.out⟩
      · have HF : Hid (firstU (s.data.toList.drop k) = none) := by
          show _ = _
          rw [hdr.out, firstU_other (u8_ne h (by decide)), if_pos (bareB_yes (.inr (.inr (.inl h))))]
        have HN : Hid _ := unL_no hun.out hne.out HF.out
        clear he
        go_wp2_with fail
        go_ret2
        exact ⟨by rw [HN.out]; rfl, hbw.out⟩
      · have HF : Hid (firstU (s.data.toList.drop k) = none) := by
          show _ = _
          rw [hdr.out, firstU_other (u8_ne h (by decide)), if_pos (bareB_yes (.inr (.inr (.inr h))))]
        have HN : Hid _ := unL_no hun.out hne.out HF.out
        clear he
        go_wp2_with fail
        go_ret2
        exact ⟨by rw [HN.out]; rfl, hbw.out⟩
      · have HF : Hid (firstU (s.data.toList.drop k) = some (s[k], 1)) := by
          show _ = _
          rw [hdr.out, firstU_other (fun e => h1 (by rw [e]; rfl)), if_neg (by rw [bareB_no h1 h2 h3 h4]; simp)]
        have HN : Hid _ := unL_step hun.out HF.out
        have HO : Hid _ := eb_one s k hlt
        have hos : (s.extract k (k + 1)).size = 1 := by rw [← eb_len, HO.out]; rfl
        have hd : ¬ 9223372036854775807 < acc.size + (s.extract k (k + 1)).size := by have := hal.out; omega
        have hos' : Hid _ := hos
        have hsl := slice_one s k hlt wr
        have b1 : ((s[k].toNat : Int) != 38) = true := by simpa using h1
        have b2 : ((s[k].toNat : Int) == 60) = false := by simpa using h2
        have b3 : ((s[k].toNat : Int) == 62) = false := by simpa using h3
        have b4 : ((s[k].toNat : Int) == 34) = false := by simpa using h4
        clear he hos
        go_wp2_with fail
        go_roundw
        case rel => exact ⟨k + 1, acc ++ s.extract k (k + 1), by omega, by go_num, rfl, by show _ ≤ _; have := hal.out; have := hos'.out; simp; omega, hbr, by show _ = _; rw [eb_app, HO.out, HN.out, List.drop_drop]⟩
        case measure => simp [intOf]; omega
    · have HN : Hid (unL s.data.toList = some acc.data.toList) := by
        have := hun.out
        rw [List.drop_of_length_le (by simp; omega)] at this
        exact unL_end this
      go_wp2_with fail
      go_ret2
      exact ⟨by rw [HN.out]; rfl, hbw.out⟩
end Go.Proofs.YtlcddndpfhdakaaDoor
