/- What escapedSign of the program returns, where the table of signs lies as it is laid. -/
import Derived.Test.YtlcddndpfhdakaaDoorEscPlain
import Derived.Test.YtlcddndpfhdakaaDoorRows
import Derived.WalkKit
namespace Go.Proofs.YtlcddndpfhdakaaDoor
open Go.RowKit
def ampS : ByteArray := ⟨#[38, 97, 109, 112, 59]⟩
def ltG : ByteArray := ⟨#[38, 108, 116, 59]⟩
def gtS : ByteArray := ⟨#[38, 103, 116, 59]⟩
def quotS : ByteArray := ⟨#[38, 113, 117, 111, 116, 59]⟩
/-- the table of signs -/
def Signs (w : World) : Prop := w.cell? ⟨0, 0, none⟩ = some (.int .u8 38) ∧ w.cell? ⟨0, 1, none⟩ = some (.string ampS) ∧ w.cell? ⟨0, 2, none⟩ = some (.int .u8 60) ∧ w.cell? ⟨0, 3, none⟩ = some (.string ltG) ∧
  w.cell? ⟨0, 4, none⟩ = some (.int .u8 62) ∧ w.cell? ⟨0, 5, none⟩ = some (.string gtS) ∧ w.cell? ⟨0, 6, none⟩ = some (.int .u8 34) ∧ w.cell? ⟨0, 7, none⟩ = some (.string quotS)
theorem Signs.lt {w : World} (h : Signs w) : 0 < w.heap.size := World.block_lt_of_cell? _ _ h.1
theorem Signs.keep {w w' : World} (h : Signs w) (hb : w'.heap[0]? = w.heap[0]?) : Signs w' := by
  obtain ⟨h0, h1, h2, h3, h4, h5, h6, h7⟩ := h
  refine ⟨?_, ?_, ?_, ?_, ?_, ?_, ?_, ?_⟩ <;> (rw [World.cell?_of_block (w := w) (w' := w') hb]; assumption)
theorem Signs.below {w w' : World} {n : Nat} (h : Signs w) (hb : Below n w w') (hn : 0 < n) : Signs w' := h.keep (hb.block 0 hn)
/-- what escapedSign answers of a byte -/
def signN (n : Int) : Value := if n = 38 then .tuple #[.string ampS, .bool true] else if n = 60 then .tuple #[.string ltG, .bool true] else if n = 62 then .tuple #[.string gtS, .bool true] else if n = 34 then .tuple #[.string quotS, .bool true] else .tuple #[.string ⟨#[]⟩, .bool false]
theorem signN_1 {n : Int} (h : n = 38) : signN n = .tuple #[.string ampS, .bool true] := by simp [signN, h]
theorem signN_2 {n : Int} (h : n = 60) : signN n = .tuple #[.string ltG, .bool true] := by simp [signN, h]
theorem signN_3 {n : Int} (h : n = 62) : signN n = .tuple #[.string gtS, .bool true] := by simp [signN, h]
theorem signN_4 {n : Int} (h : n = 34) : signN n = .tuple #[.string quotS, .bool true] := by simp [signN, h]
theorem signN_5 {n : Int} (h1 : ¬ n = 38) (h2 : ¬ n = 60) (h3 : ¬ n = 62) (h4 : ¬ n = 34) : signN n = .tuple #[.string ⟨#[]⟩, .bool false] := by simp [signN, h1, h2, h3, h4]
/-- the table as one value -/
abbrev tabV : Value := .agg #[.int .u8 38, .string ampS, .int .u8 60, .string ltG, .int .u8 62, .string gtS, .int .u8 34, .string quotS]
theorem tab_0 (w : World) : (Instr.index 96 tabV (.int .i64 0)).run Tryd.prog w = .ok (.agg #[.int .u8 38, .string ampS]) w := by kernel_rfl
theorem tab_1 (w : World) : (Instr.index 96 tabV (.int .i64 1)).run Tryd.prog w = .ok (.agg #[.int .u8 60, .string ltG]) w := by kernel_rfl
theorem tab_2 (w : World) : (Instr.index 96 tabV (.int .i64 2)).run Tryd.prog w = .ok (.agg #[.int .u8 62, .string gtS]) w := by kernel_rfl
theorem tab_3 (w : World) : (Instr.index 96 tabV (.int .i64 3)).run Tryd.prog w = .ok (.agg #[.int .u8 34, .string quotS]) w := by kernel_rfl
set_option maxRecDepth 100000 in
set_option maxHeartbeats 1000000 in
theorem escapedSign_any (n : Int) (w : World) (hs : Signs w) :
    Calls Tryd.prog 73 #[.int .u8 n] w fun e w' => e = .returned (signN n) ∧ Below w.heap.size w w' := by
  obtain ⟨h0, h1, h2, h3, h4, h5, h6, h7⟩ := hs
  go_enter Tryd.func73, Tryd.ntmps73
  go_wp2
  go_loopw [7] (fun i wr => ∃ j : Nat, j ≤ 4 ∧ i = .int .i64 j ∧ Below w.heap.size w wr ∧ Hid ((1 ≤ j → ¬ n = 38) ∧ (2 ≤ j → ¬ n = 60) ∧ (3 ≤ j → ¬ n = 62) ∧ (4 ≤ j → ¬ n = 34))) (fun i _ => 4 - (intOf i).toNat)
  case atStart => exact ⟨0, by omega, rfl, Below.refl _ _, by refine ⟨?_, ?_, ?_, ?_⟩ <;> (intro h; omega)⟩
  case round =>
    obtain ⟨j, hj, rfl, hb, H⟩ := hrel
    have hal : ∀ o : Obj, Below w.heap.size w (wr.alloc o) := fun o => hb.alloc hb.size o
    have HB : Hid _ := hb
    have HA : Hid _ := hal
    clear hb hal
    obtain ⟨H1, H2, H3, H4⟩ := H.out
    match j, hj with
    | 0, _ =>
      have hix := tab_0 wr
      clear H H1 H2 H3 H4
      by_cases hn : n = 38
      · have HN : Hid _ := signN_1 (n := 38) rfl
        subst hn
        go_wp2
        go_ret2
        exact ⟨by rw [HN.out]; rfl, HA.out _⟩
      · have HN : Hid _ := hn
        go_wp2
        go_roundw
        case rel => exact ⟨1, by omega, by go_num, HA.out _, fun _ => HN.out, fun h => by omega, fun h => by omega, fun h => by omega⟩
        case measure => simp [intOf]
    | 1, _ =>
      have hix := tab_1 wr
      have K1 : Hid _ := H1 (by omega)
      clear H H1 H2 H3 H4
      by_cases hn : n = 60
      · have HN : Hid _ := signN_2 (n := 60) rfl
        subst hn
        go_wp2
        go_ret2
        exact ⟨by rw [HN.out]; rfl, HA.out _⟩
      · have HN : Hid _ := hn
        go_wp2
        go_roundw
        case rel => exact ⟨2, by omega, by go_num, HA.out _, fun _ => K1.out, fun _ => HN.out, fun h => by omega, fun h => by omega⟩
        case measure => simp [intOf]
    | 2, _ =>
      have hix := tab_2 wr
      have K1 : Hid _ := H1 (by omega)
      have K2 : Hid _ := H2 (by omega)
      clear H H1 H2 H3 H4
      by_cases hn : n = 62
      · have HN : Hid _ := signN_3 (n := 62) rfl
        subst hn
        go_wp2
        go_ret2
        exact ⟨by rw [HN.out]; rfl, HA.out _⟩
      · have HN : Hid _ := hn
        go_wp2
        go_roundw
        case rel => exact ⟨3, by omega, by go_num, HA.out _, fun _ => K1.out, fun _ => K2.out, fun _ => HN.out, fun h => by omega⟩
        case measure => simp [intOf]
    | 3, _ =>
      have hix := tab_3 wr
      have K1 : Hid _ := H1 (by omega)
      have K2 : Hid _ := H2 (by omega)
      have K3 : Hid _ := H3 (by omega)
      clear H H1 H2 H3 H4
      by_cases hn : n = 34
      · have HN : Hid _ := signN_4 (n := 34) rfl
        subst hn
        go_wp2
        go_ret2
        exact ⟨by rw [HN.out]; rfl, HA.out _⟩
      · have HN : Hid _ := hn
        go_wp2
        go_roundw
        case rel => exact ⟨4, by omega, by go_num, HA.out _, fun _ => K1.out, fun _ => K2.out, fun _ => K3.out, fun _ => HN.out⟩
        case measure => simp [intOf]
    | 4, _ =>
      have HN : Hid _ := signN_5 (H1 (by omega)) (H2 (by omega)) (H3 (by omega)) (H4 (by omega))
      clear H H1 H2 H3 H4
      go_wp2
      go_ret2
      exact ⟨by rw [HN.out]; rfl, HB.out⟩
end Go.Proofs.YtlcddndpfhdakaaDoor
