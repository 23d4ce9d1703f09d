/- firstPlain and Unescaped of the program, walked. -/
import Derived.Test.YtlcddndpfhdakaaDoorEscImpl
import Derived.Test.YtlcddndpfhdakaaDoorEscSpec
import Derived.Test.YtlcddndpfhdakaaDoorAppBytes
import Derived.Test.YtlcddndpfhdakaaDoorUnPlain
import Derived.Laws.IdiomStrings
namespace Go.Proofs.YtlcddndpfhdakaaDoor
open Go.RowKit
theorem slice_to (s : ByteArray) (j : Nat) (hj : j ≤ s.size) (w : World) :
    (Instr.slice 9 (.string s) none (some (.int .i64 j)) none).run Tryd.prog w = .ok (.string (s.extract 0 j)) w := by
  have := run_slice_string_h (P := Tryd.prog) w 9 s Tryd.underlying9 .i64 j (by omega) (by omega)
  simpa using this
theorem slice_from (s : ByteArray) (i : Nat) (hi : i ≤ s.size) (w : World) :
    (Instr.slice 9 (.string s) (some (.int .i64 i)) none none).run Tryd.prog w = .ok (.string (s.extract i s.size)) w := by
  have := run_slice_string_l (P := Tryd.prog) w 9 s Tryd.underlying9 .i64 i (by omega) (by omega)
  simpa using this
theorem eb_ne {a b : ByteArray} (h : ¬ a = b) : ¬ a.toList = b.toList := fun e => h (eb_eq (by rw [← ByteArray.toList_eq, ← ByteArray.toList_eq, e]))
theorem preB_of {a b : ByteArray} : (a.extract 0 b.size = b) ↔ preB b.data.toList a.data.toList = true := by
  have e : (a.extract 0 b.size).data.toList = a.data.toList.take b.size := by rw [eb_mid]; simp
  constructor
  · intro q
    rw [q] at e
    rw [preB, eb_len, ← e]; simp
  · intro q
    rw [preB, eb_len] at q
    exact eb_eq (e.trans (by simpa using q))
set_option maxRecDepth 100000 in
set_option maxHeartbeats 1000000 in
theorem liteHasPrefix_any (a b : ByteArray) (w : World) :
    Calls Tryd.prog 82 #[.string a, .string b] w fun e w' => e = .returned (.bool (preB b.data.toList a.data.toList)) ∧ w' = w := by
  by_cases h : b.size ≤ a.size
  · have hsl := slice_to a b.size h w
    by_cases q : a.extract 0 b.size = b
    · have H : Hid _ := preB_of.1 q
      rw [q] at hsl
      clear q
      go_enter Tryd.func82, Tryd.ntmps82
      go_wp2
      go_ret
      exact ⟨by rw [H.out]; simp, rfl⟩
    · have H : Hid (preB b.data.toList a.data.toList = false) := by
        show _ = _
        cases hq : preB b.data.toList a.data.toList
        · rfl
        · exact absurd (preB_of.2 hq) q
      go_enter Tryd.func82, Tryd.ntmps82
      go_wp2
      go_ret
      exact ⟨by rw [H.out]; simp [eb_ne q], rfl⟩
  · have H : Hid (preB b.data.toList a.data.toList = false) := by
      show _ = _
      cases hq : preB b.data.toList a.data.toList
      · rfl
      · have := preB_length hq
        rw [eb_len, eb_len] at this
        omega
    go_enter Tryd.func82, Tryd.ntmps82
    go_wp2
    go_ret
    exact ⟨by rw [H.out]; rfl, rfl⟩
theorem hasPrefix_any (a b : ByteArray) (w : World) :
    Calls Tryd.prog 75 #[.string a, .string b] w fun e w' => e = .returned (.bool (preB b.data.toList a.data.toList)) ∧ w' = w := by
  go_enter Tryd.func75, Tryd.ntmps75
  go_wp2_with fail
  refine (liteHasPrefix_any a b w).mono ?_
  rintro e w1 ⟨rfl, rfl⟩
  go_wp2_with fail
  go_ret
  exact ⟨rfl, rfl⟩
/-- what firstPlain answers -/
def firstV : Option (UInt8 × Nat) → Value
  | none => .tuple #[.int .u8 0, .int .i64 0, .bool false]
  | some (c, k) => .tuple #[.int .u8 c.toNat, .int .i64 k, .bool true]
set_option maxRecDepth 100000 in
set_option maxHeartbeats 1000000 in
theorem firstPlain_any (s : ByteArray) (w : World) (hs : 0 < s.size) (hsg : Signs w) :
    Calls Tryd.prog 84 #[.string s] w fun e w' => e = .returned (firstV (firstU s.data.toList)) ∧ Below w.heap.size w w' := by
  have hsg' : Hid (Signs w) := hsg
  obtain ⟨h0, h1, h2, h3, h4, h5, h6, h7⟩ := hsg
  go_enter Tryd.func84, Tryd.ntmps84
  go_wp2_with fail
  go_loopw [10] (fun i wr => ∃ j : Nat, j ≤ 4 ∧ i = .int .i64 j ∧ Below w.heap.size w wr ∧ Hid ((1 ≤ j → preB ampL s.data.toList = false) ∧ (2 ≤ j → preB ltL s.data.toList = false) ∧ (3 ≤ j → preB gtL s.data.toList = false) ∧ (4 ≤ j → preB quotL s.data.toList = false))) (fun i _ => 4 - (intOf i).toNat)
  case atStart => exact ⟨0, by omega, rfl, Below.refl _ _, by refine ⟨?_, ?_, ?_, ?_⟩ <;> (intro h; omega)⟩
  case round =>
    obtain ⟨j, hj, rfl, hb, H⟩ := hrel
    have HA : Hid (∀ o : Obj, Below w.heap.size w (wr.alloc o)) := fun o => hb.alloc hb.size o
    have HB : Hid (Below w.heap.size w wr) := hb
    have hsr : Hid (Signs wr) := Signs.below hsg'.out hb (Signs.lt hsg'.out)
    clear hb
    obtain ⟨H1, H2, H3, H4⟩ := H.out
    match j, hj with
    | 0, _ =>
      have hix := tab_0 wr
      clear H H1 H2 H3 H4
      cases hp : preB ampL s.data.toList
      · have HN : Hid _ := hp
        clear hp
        go_wp2_with (go_at_call 75; refine (hasPrefix_any _ _ _).mono ?_; rintro e w1 ⟨rfl, rfl⟩; rw [show preB ampS.data.toList s.data.toList = false from HN.out])
        go_roundw
        case rel => exact ⟨1, by omega, by go_num, HA.out _, fun _ => by first | trivial | exact HN.out, fun h => by omega, fun h => by omega, fun h => by omega⟩
        case measure => simp [intOf]
      · have HN : Hid _ := firstU_amp  hp
        go_wp2_with (go_at_call 75; refine (hasPrefix_any _ _ _).mono ?_; rintro e w1 ⟨rfl, rfl⟩; rw [show preB ampS.data.toList s.data.toList = true from hp])
        go_region
        all_goals
          go_wp2_with fail
          go_ret3
          exact ⟨by rw [HN.out]; rfl, Below.drew (HA.out _)⟩
    | 1, _ =>
      have hix := tab_1 wr
      have K1 : Hid _ := H1 (by omega)
      clear H H1 H2 H3 H4
      cases hp : preB ltL s.data.toList
      · have HN : Hid _ := hp
        clear hp
        go_wp2_with (go_at_call 75; refine (hasPrefix_any _ _ _).mono ?_; rintro e w1 ⟨rfl, rfl⟩; rw [show preB ltG.data.toList s.data.toList = false from HN.out])
        go_roundw
        case rel => exact ⟨2, by omega, by go_num, HA.out _, fun _ => K1.out, fun _ => by first | trivial | exact HN.out, fun h => by omega, fun h => by omega⟩
        case measure => simp [intOf]
      · have HN : Hid _ := firstU_lt K1.out hp
        go_wp2_with (go_at_call 75; refine (hasPrefix_any _ _ _).mono ?_; rintro e w1 ⟨rfl, rfl⟩; rw [show preB ltG.data.toList s.data.toList = true from hp])
        go_region
        all_goals
          go_wp2_with fail
          go_ret3
          exact ⟨by rw [HN.out]; rfl, Below.drew (HA.out _)⟩
    | 2, _ =>
      have hix := tab_2 wr
      have K1 : Hid _ := H1 (by omega)
      have K2 : Hid _ := H2 (by omega)
      clear H H1 H2 H3 H4
      cases hp : preB gtL s.data.toList
      · have HN : Hid _ := hp
        clear hp
        go_wp2_with (go_at_call 75; refine (hasPrefix_any _ _ _).mono ?_; rintro e w1 ⟨rfl, rfl⟩; rw [show preB gtS.data.toList s.data.toList = false from HN.out])
        go_roundw
        case rel => exact ⟨3, by omega, by go_num, HA.out _, fun _ => K1.out, fun _ => K2.out, fun _ => by first | trivial | exact HN.out, fun h => by omega⟩
        case measure => simp [intOf]
      · have HN : Hid _ := firstU_gt K1.out K2.out hp
        go_wp2_with (go_at_call 75; refine (hasPrefix_any _ _ _).mono ?_; rintro e w1 ⟨rfl, rfl⟩; rw [show preB gtS.data.toList s.data.toList = true from hp])
        go_region
        all_goals
          go_wp2_with fail
          go_ret3
          exact ⟨by rw [HN.out]; rfl, Below.drew (HA.out _)⟩
    | 3, _ =>
      have hix := tab_3 wr
      have K1 : Hid _ := H1 (by omega)
      have K2 : Hid _ := H2 (by omega)
      have K3 : Hid _ := H3 (by omega)
      clear H H1 H2 H3 H4
      cases hp : preB quotL s.data.toList
      · have HN : Hid _ := hp
        clear hp
        go_wp2_with (go_at_call 75; refine (hasPrefix_any _ _ _).mono ?_; rintro e w1 ⟨rfl, rfl⟩; rw [show preB quotS.data.toList s.data.toList = false from HN.out])
        go_roundw
        case rel => exact ⟨4, by omega, by go_num, HA.out _, fun _ => K1.out, fun _ => K2.out, fun _ => K3.out, fun _ => by first | trivial | exact HN.out⟩
        case measure => simp [intOf]
      · have HN : Hid _ := firstU_quot K1.out K2.out K3.out hp
        go_wp2_with (go_at_call 75; refine (hasPrefix_any _ _ _).mono ?_; rintro e w1 ⟨rfl, rfl⟩; rw [show preB quotS.data.toList s.data.toList = true from hp])
        go_region
        all_goals
          go_wp2_with fail
          go_ret3
          exact ⟨by rw [HN.out]; rfl, Below.drew (HA.out _)⟩
    | 4, _ =>
      have hne : s.data.toList = s[0] :: s.data.toList.tail := by
        have : 0 < s.data.toList.length := by rw [eb_len]; exact hs
        have e := List.drop_eq_getElem_cons this
        exact (by simpa using e : s.data.toList = s.data[0] :: s.data.toList.tail)
      have K1 := H1 (by omega)
      have K2 := H2 (by omega)
      have K3 := H3 (by omega)
      have K4 := H4 (by omega)
      rw [hne] at K1 K2 K3 K4
      have HN : Hid (firstU s.data.toList = if bareB s[0] then none else some (s[0], 1)) := by
        show _ = _
        rw [hne]; exact firstU_else K1 K2 K3 K4
      clear H H1 H2 H3 H4 K1 K2 K3 K4 hne
      go_wp2_with fail
      refine (escapedSign_any _ _ hsr.out).mono ?_
      rintro e w1 ⟨rfl, hb1⟩
      have HB1 : Hid (Below w.heap.size w w1) := HB.out.trans (hb1.mono HB.out.size)
      clear hb1
      rcases byte_kinds s[0] with ⟨h, _⟩ | ⟨h, _⟩ | ⟨h, _⟩ | ⟨h, _⟩ | ⟨q1, q2, q3, q4, _⟩
      · rw [signN_1 h]
        have HK : Hid _ := bareB_yes (.inl h)
        clear h
        go_wp2_with fail
        go_ret3
        exact ⟨by rw [HN.out, HK.out]; rfl, HB1.out⟩
      · rw [signN_2 h]
        have HK : Hid _ := bareB_yes (.inr (.inl h))
        clear h
        go_wp2_with fail
        go_ret3
        exact ⟨by rw [HN.out, HK.out]; rfl, HB1.out⟩
      · rw [signN_3 h]
        have HK : Hid _ := bareB_yes (.inr (.inr (.inl h)))
        clear h
        go_wp2_with fail
        go_ret3
        exact ⟨by rw [HN.out, HK.out]; rfl, HB1.out⟩
      · rw [signN_4 h]
        have HK : Hid _ := bareB_yes (.inr (.inr (.inr h)))
        clear h
        go_wp2_with fail
        go_ret3
        exact ⟨by rw [HN.out, HK.out]; rfl, HB1.out⟩
      · rw [signN_5 q1 q2 q3 q4]
        have HK : Hid _ := bareB_no q1 q2 q3 q4
        clear q1 q2 q3 q4
        go_wp2_with fail
        go_ret3
        exact ⟨by rw [HN.out, HK.out]; rfl, HB1.out⟩
/-- what Unescaped answers -/
def unV : Option (List UInt8) → Value
  | none => .tuple #[.string ⟨#[]⟩, .bool false]
  | some l => .tuple #[.string ⟨l.toArray⟩, .bool true]
theorem eb_from (s : ByteArray) (i : Nat) : (s.extract i s.size).data.toList = s.data.toList.drop i := by
  rw [eb_mid]
  exact List.take_of_length_le (by simp)
set_option maxRecDepth 100000 in
set_option maxHeartbeats 1000000 in
theorem implUnescaped_any (s : ByteArray) (w : World) (hs : s.size ≤ 1048576) (hsg : Signs w) :
    Calls Tryd.prog 77 #[.string s] w fun e w' => e = .returned (unV (unL s.data.toList)) ∧ Below w.heap.size w w' := by
  have hsg' : Hid (Signs w) := hsg
  clear hsg
  have ho : Hid (OwnB w w.heap.size (.slice none 0 0) []) := World.ownsRow_nil w _ _ _
  go_enter Tryd.func77, Tryd.ntmps77
  go_wp2_with fail
  go_loopw [4, 5] (fun z i wr => ∃ (k : Nat) (acc : List UInt8), k ≤ s.size ∧ i = .int .i64 k ∧ Hid (acc.length ≤ k) ∧ Hid (OwnB wr w.heap.size z acc) ∧ Hid (Goes w (.slice none 0 0) wr z) ∧ Hid (unL s.data.toList = (unL (s.data.toList.drop k)).map (acc ++ ·))) (fun _ i _ => s.size - (intOf i).toNat)
  case atStart => exact ⟨0, [], by omega, rfl, by show _ ≤ _; simp, ho, Goes.refl _ _, by show _ = _; simp⟩
  case round =>
    obtain ⟨k, acc, hk, rfl, hal, hok, hgk, hun⟩ := hrel
    have hbk : Below w.heap.size w wr := Goes.below hgk.out (Below.refl _ _) ho.out
    have hbk' : Hid (Below w.heap.size w wr) := hbk
    have hsk : Hid (Signs wr) := Signs.below hsg'.out hbk (Signs.lt hsg'.out)
    have hzk : w.heap.size ≤ wr.heap.size := hbk.size
    clear hbk
    by_cases hlt : k < s.size
    · have hsl := slice_from s k (by omega) wr
      have hne : Hid (s.data.toList.drop k ≠ []) := by
        show _ ≠ _
        intro e
        have := congrArg List.length e
        simp at this
        omega
      have hps : Hid (0 < (s.extract k s.size).size) := by show _ < _; rw [← eb_len, eb_from]; simp; omega
      go_wp2_with fail
      refine (firstPlain_any (s.extract k s.size) wr hps.out hsk.out).mono ?_
      rintro e w1 ⟨rfl, hb1⟩
      rw [eb_from]
      have hz1 := hb1.size
      have hb1' : Hid (Below wr.heap.size wr w1) := hb1
      clear hb1 hsl
      have ho1 : Hid (OwnB w1 w.heap.size u4 acc) := OwnB.below hok.out hb1'.out
      have hg1 : Hid (Goes w (.slice none 0 0) w1 u4) := Goes.after hgk.out hb1'.out
      cases hq : firstU (s.data.toList.drop k) with
      | none =>
        have HN : Hid _ := unL_no hun.out hne.out hq
        rw [show firstV none = .tuple #[.int .u8 0, .int .i64 0, .bool false] from rfl]
        clear hq
        go_wp2_with fail
        go_ret2
        exact ⟨by rw [HN.out]; rfl, hbk'.out.trans (hb1'.out.mono hbk'.out.size)⟩
      | some ck =>
        obtain ⟨c, m⟩ := ck
        have HN : Hid _ := unL_step hun.out hq
        have hr := firstU_range hq
        rw [List.length_drop, eb_len] at hr
        rw [show firstV (some (c, m)) = .tuple #[.int .u8 c.toNat, .int .i64 m, .bool true] from rfl]
        clear hq
        go_wp2_with (at_builtin; refine wpList_append_one rfl _ _ rfl w.heap.size u4 acc c rfl rfl ho1.out ?c2 ?c3 ?_)
        case c2 => have := hal.out; omega
        case c3 => omega
        intro v2 w2 ho2 hg2
        have ho2' : Hid (OwnB w2 w.heap.size v2 (acc ++ [c])) := ho2
        have hg2' : Hid (Goes w1 u4 w2 v2) := hg2
        clear ho2 hg2
        go_wp2_with fail
        go_roundw
        case rel => exact ⟨k + m, acc ++ [c], by omega, by go_num, by show _ ≤ _; have := hal.out; simp; omega, ho2', Goes.trans hg1.out hg2'.out, by show _ = _; rw [HN.out, List.drop_drop]⟩
        case measure => simp [intOf]; omega
    · have HN : Hid (unL s.data.toList = some acc) := by
        have := hun.out
        rw [List.drop_of_length_le (by simp; omega)] at this
        exact unL_end this
      rcases hok.out.2 with ⟨rfl, hn⟩ | ⟨g, cap, cur, rfl, hg, hh, _⟩
      · have hl0 : acc = [] := List.eq_nil_of_length_eq_zero hn
        subst hl0
        have hcv := run_convert_bytes_none wr
        go_wp2_with fail
        go_ret2
        exact ⟨by rw [HN.out]; rfl, hbk'.out⟩
      · have hcv := run_convert_bytes_back (P := Tryd.prog) wr 22 9 5 ⟨g, 0, none⟩ cap acc Tryd.underlying22 Tryd.underlying5 Tryd.underlying9 (fun j hj => World.ownsRow.cells (g := g) hok.out rfl j _ (by simp [byteCells, List.getElem?_eq_getElem hj]))
        clear hh
        go_wp2_with fail
        go_ret2
        exact ⟨by rw [HN.out]; rfl, hbk'.out⟩
end Go.Proofs.YtlcddndpfhdakaaDoor
