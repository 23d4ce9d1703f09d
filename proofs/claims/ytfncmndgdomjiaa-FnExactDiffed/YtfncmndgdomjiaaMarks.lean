/- The marks of the laws: markText, walked. -/
import Derived.Test.YtfncmndgdomjiaaOwnFill
import Derived.Test.YtfncmndgdomjiaaRows
import Derived.Test.YtfncmndgdomjiaaTakeLit
import Derived.WalkKit
import Derived.Laws.IdiomStrings
namespace Go.Proofs.Ytfncmndgdomjiaa
open Go.RowKit
def dig (k : Nat) : UInt8 := UInt8.ofNat (48 + k % 10)
def digF : Nat → Nat → List UInt8 → List UInt8
  | 0, _, acc => acc
  | n + 1, k, acc => if k = 0 then acc else digF n (k / 10) (dig k :: acc)
theorem digF_zero (n : Nat) (acc : List UInt8) : digF n 0 acc = acc := by cases n <;> simp [digF]
theorem digF_fuel : ∀ (n m k : Nat) (acc : List UInt8), k ≤ n → k ≤ m → digF n k acc = digF m k acc := by
  intro n
  induction n with
  | zero => intro m k acc h _; obtain rfl : k = 0 := Nat.le_zero.1 h; exact (digF_zero m acc).symm
  | succ n ih =>
    intro m k acc h h2
    by_cases e : k = 0
    · subst e; rw [digF_zero, digF_zero]
    · obtain ⟨m', rfl⟩ : ∃ m', m = m' + 1 := ⟨m - 1, by omega⟩
      rw [digF, digF, if_neg e, if_neg e]
      exact ih m' (k / 10) _ (by omega) (by omega)
theorem digF_step {k : Nat} (h : 0 < k) (acc : List UInt8) : digF k k acc = digF (k / 10) (k / 10) (dig k :: acc) := by
  obtain ⟨m, rfl⟩ : ∃ m, k = m + 1 := ⟨k - 1, by omega⟩
  rw [digF, if_neg (by omega)]
  exact digF_fuel _ _ _ _ (by omega) (by omega)
theorem digF_size : ∀ (n k : Nat) (acc : List UInt8), k ≤ n → (digF n k acc).length ≤ acc.length + k := by
  intro n
  induction n with
  | zero => intro k acc h; simp [digF]
  | succ n ih =>
    intro k acc h
    by_cases e : k = 0
    · subst e; rw [digF_zero]; omega
    · rw [digF, if_neg e]
      have := ih (k / 10) (dig k :: acc) (by omega)
      simp only [List.length_cons] at this
      omega
/-- the mark of a number -/
def markT (m : Int) : ByteArray := if m ≤ 0 then ⟨#[109, 48]⟩ else ⟨(109 :: digF m.toNat m.toNat []).toArray⟩
theorem markT_size {m : Int} (h : m ≤ 4611686018427387904) : (markT m).size ≤ maxLen := by
  unfold markT maxLen
  split
  · decide
  · have := digF_size m.toNat m.toNat [] (Nat.le_refl _)
    show (109 :: digF m.toNat m.toNat []).toArray.size ≤ _
    simp only [List.size_toArray, List.length_cons, List.length_nil] at this ⊢
    omega
set_option maxRecDepth 100000 in
set_option maxHeartbeats 800000 in
theorem markText_any {w : World} {m : Int} (h1 : m ≤ 4611686018427387904) :
    Calls Try.prog 49 #[.int .i64 m] w fun e w' => e = .returned (.string (markT m)) ∧ Below w.heap.size w w' := by
  by_cases h0 : m ≤ 0
  · have HF : Hid (markT m = ⟨#[109, 48]⟩) := by show _ = _; simp [markT, h0]
    go_enter Try.func49, Try.ntmps49
    go_wp2_with fail
    go_ret
    exact ⟨by rw [HF.out]; rfl, Below.refl _ _⟩
  have h0' : decide (m ≤ 0) = false := by simpa using h0
  have HF : Hid (markT m = ⟨(109 :: digF m.toNat m.toNat []).toArray⟩) := by show _ = _; simp [markT, h0]
  have hm0 : 0 < m := by omega
  clear h0
  go_enter Try.func49, Try.ntmps49
  go_wp2_with fail
  go_loopw [0, 3] (fun z s wr => ∃ (k : Int) (acc : List UInt8), z = .int .i64 k ∧ s = .string ⟨acc.toArray⟩ ∧ 0 ≤ k ∧ acc.length + k.toNat ≤ m.toNat ∧ Hid (Below w.heap.size w wr) ∧ Hid (digF m.toNat m.toNat [] = digF k.toNat k.toNat acc)) (fun z _ _ => (intOf z).toNat)
  case atStart => exact ⟨m, [], rfl, rfl, by omega, by simp, Below.refl _ _, rfl⟩
  case round =>
    obtain ⟨k, acc, rfl, rfl, hk0, hk, hbr, hrem⟩ := hrel
    by_cases hlt : 0 < k
    · have HS : Hid _ := digF_step (k := k.toNat) (by omega) acc
      have hdt : (dig k.toNat).toNat = 48 + k.toNat % 10 := by unfold dig; simp; omega
      have hmod : k.tmod 10 = k % 10 := Int.tmod_eq_emod_of_nonneg (by omega)
      have hdiv : k.tdiv 10 = k / 10 := Int.tdiv_eq_ediv_of_nonneg (by omega)
      have hd8 : ((dig k.toNat).toNat : Int) = 48 + k % 10 := by rw [hdt]; omega
      have hcv : (convert 87 9 (.slice (some ⟨wr.heap.size, 0, none⟩) 1 1)).run Try.prog (wr.alloc (.cells (List.toArray [.int .u8 (48 + k % 10)]) 5)) = .ok (.string ⟨#[dig k.toNat]⟩) (wr.alloc (.cells (List.toArray [.int .u8 (48 + k % 10)]) 5)) := by
        refine run_convert_bytes_back (P := Try.prog) _ 87 9 5 ⟨wr.heap.size, 0, none⟩ 1 [dig k.toNat] Try.underlying87 Try.underlying5 Try.underlying9 (fun j hj => ?_)
        obtain rfl : j = 0 := by simpa using hj
        rw [show (Addr.add ⟨wr.heap.size, 0, none⟩ 0 : Addr) = ⟨wr.heap.size, 0, none⟩ from rfl, List.getElem_cons_zero, hd8]
        exact (Box.new wr [.int .u8 (48 + k % 10)] 5).cell 0 rfl
      have hcat : ¬ 9223372036854775807 < (⟨#[dig k.toNat]⟩ : ByteArray).size + (⟨acc.toArray⟩ : ByteArray).size := by
        show ¬ 9223372036854775807 < 1 + acc.toArray.size
        simp only [List.size_toArray]; omega
      go_wp2_with fail
      have hcc : (⟨#[dig k.toNat]⟩ : ByteArray) ++ ⟨acc.toArray⟩ = ⟨(dig k.toNat :: acc).toArray⟩ := by
        rw [ByteArray.ext_iff, ByteArray.data_append]; simp
      have hdk : (k / 10).toNat = k.toNat / 10 := by omega
      go_roundw
      case rel => exact ⟨k / 10, dig k.toNat :: acc, rfl, by rw [hcc], by omega, by simp only [List.length_cons]; omega, hbr.out.alloc hbr.out.size _, by show _ = _; rw [hrem.out, HS.out, hdk]⟩
      case measure => simp only [intOf]; omega
    · have hp : decide (0 < k) = false := by simpa using hlt
      obtain rfl : k = 0 := by omega
      go_wp2_with fail
      go_ret
      exact ⟨by rw [HF.out, hrem.out, Int.toNat_zero, digF_zero]; rfl, hbr.out⟩
end Go.Proofs.Ytfncmndgdomjiaa
