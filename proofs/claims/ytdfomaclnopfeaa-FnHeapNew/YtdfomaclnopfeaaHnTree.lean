/- TreeOf of a new heap, by the program: walked. -/
import Derived.Test.YtdfomaclnopfeaaWnSame
import Derived.Test.YtdfomaclnopfeaaImplRight
namespace Go.Proofs.Ytdfomaclnopfeaa
open Go.RowKit
set_option maxRecDepth 100000 in
set_option maxHeartbeats 2000000 in
theorem treeOf_new {w : World} {bn bo : Nat} {n3 n5 : Option Addr} {m3 m5 : Nat} : Calls Try.prog 12 #[.agg (List.toArray [.map (some bn), .map (some bo)]), .agg (List.toArray [.int .i64 1, .string ⟨#[100, 111, 99]⟩, .int .i64 0, .slice n3 0 m3, .int .i64 0, .slice n5 0 m5])] w fun e w' => e = .returned (.agg (List.toArray [.string ⟨#[100, 111, 99]⟩, .slice none 0 0])) ∧ Below w.heap.size w w' := by
  have hb : Hid (Below w.heap.size w ((((w.alloc (.cells (List.toArray [.map (some bn), .map (some bo)]) 46)).alloc (.cells (List.toArray [.int .i64 1, .string ⟨#[100, 111, 99]⟩, .int .i64 0, .slice n3 0 m3, .int .i64 0, .slice n5 0 m5]) 42)).alloc (.cells (List.toArray [.string ⟨#[]⟩, .slice none 0 0]) 31)).alloc (.cells (List.toArray [.string ⟨#[100, 111, 99]⟩, .slice none 0 0]) 31))) := ((((Below.refl _ _).alloc (Nat.le_refl _) _).alloc (by simp) _).alloc (by simp; omega) _).alloc (by simp; omega) _
  have bR : Hid (Box ((((w.alloc (.cells (List.toArray [.map (some bn), .map (some bo)]) 46)).alloc (.cells (List.toArray [.int .i64 1, .string ⟨#[100, 111, 99]⟩, .int .i64 0, .slice n3 0 m3, .int .i64 0, .slice n5 0 m5]) 42)).alloc (.cells (List.toArray [.string ⟨#[]⟩, .slice none 0 0]) 31)).alloc (.cells (List.toArray [.string ⟨#[100, 111, 99]⟩, .slice none 0 0]) 31)) (w.heap.size + 2) [.string ⟨#[]⟩, .slice none 0 0] 31) := by
    have h5 := Box.new ((w.alloc (.cells (List.toArray [.map (some bn), .map (some bo)]) 46)).alloc (.cells (List.toArray [.int .i64 1, .string ⟨#[100, 111, 99]⟩, .int .i64 0, .slice n3 0 m3, .int .i64 0, .slice n5 0 m5]) 42)) [.string ⟨#[]⟩, .slice none 0 0] 31
    simp only [World.size_alloc] at h5
    exact h5.alloc _
  have bT : Hid (Box ((((w.alloc (.cells (List.toArray [.map (some bn), .map (some bo)]) 46)).alloc (.cells (List.toArray [.int .i64 1, .string ⟨#[100, 111, 99]⟩, .int .i64 0, .slice n3 0 m3, .int .i64 0, .slice n5 0 m5]) 42)).alloc (.cells (List.toArray [.string ⟨#[]⟩, .slice none 0 0]) 31)).alloc (.cells (List.toArray [.string ⟨#[100, 111, 99]⟩, .slice none 0 0]) 31)) (w.heap.size + 3) [.string ⟨#[100, 111, 99]⟩, .slice none 0 0] 31) := by
    have h5 := Box.new (((w.alloc (.cells (List.toArray [.map (some bn), .map (some bo)]) 46)).alloc (.cells (List.toArray [.int .i64 1, .string ⟨#[100, 111, 99]⟩, .int .i64 0, .slice n3 0 m3, .int .i64 0, .slice n5 0 m5]) 42)).alloc (.cells (List.toArray [.string ⟨#[]⟩, .slice none 0 0]) 31)) [.string ⟨#[100, 111, 99]⟩, .slice none 0 0] 31
    simp only [World.size_alloc] at h5
    exact h5
  go_enter Try.func12, Try.ntmps12
  go_wp2_with fail
  go_loopw [14] (fun i wr => i = .int .i64 0 ∧ wr = ((((w.alloc (.cells (List.toArray [.map (some bn), .map (some bo)]) 46)).alloc (.cells (List.toArray [.int .i64 1, .string ⟨#[100, 111, 99]⟩, .int .i64 0, .slice n3 0 m3, .int .i64 0, .slice n5 0 m5]) 42)).alloc (.cells (List.toArray [.string ⟨#[]⟩, .slice none 0 0]) 31)).alloc (.cells (List.toArray [.string ⟨#[100, 111, 99]⟩, .slice none 0 0]) 31))) (fun _ _ => 0)
  case atStart => exact ⟨rfl, rfl⟩
  case round =>
    obtain ⟨rfl, hwr⟩ := hrel
    have bT1 : Hid (Box wr (w.heap.size + 3) [.string ⟨#[100, 111, 99]⟩, .slice none 0 0] 31) := by rw [hwr]; exact bT
    have t0 := bT1.out.cell 0 rfl
    have t1 := bT1.out.cell 1 rfl
    have bR1 : Hid (Box wr (w.heap.size + 2) [.string ⟨#[]⟩, .slice none 0 0] 31) := by rw [hwr]; exact bR
    have hb1 : Hid (Below w.heap.size w wr) := by rw [hwr]; exact hb
    have r0 := bR1.out.cell 0 rfl
    have r1 := bR1.out.cell 1 rfl
    have rf := bR1.out.unfrozen
    clear hwr bT bR hb
    go_wp2_with fail
    have f0 := ((bR1.out.set (i := 0) (.string ⟨#[100, 111, 99]⟩)).set (i := 1) (.slice none 0 0)).cell 0 rfl
    have f1 := ((bR1.out.set (i := 0) (.string ⟨#[100, 111, 99]⟩)).set (i := 1) (.slice none 0 0)).cell 1 rfl
    refine bodyPost_ret (v := .agg (List.toArray [.string ⟨#[100, 111, 99]⟩, .slice none 0 0])) (by simp [results, Try.results12, go_sem, f0, f1]) rfl ?_
    exact ⟨rfl, (hb1.out.setCell (p := ⟨w.heap.size + 2, 0, none⟩) (by simp) _).setCell (p := ⟨w.heap.size + 2, 1, none⟩) (by simp) _⟩
theorem implB_new : implB newH = true := by decide
theorem get_new : getI NodeD.vId newH.vNodes 1 = some newN := by rfl
set_option maxRecDepth 100000 in
set_option maxHeartbeats 2000000 in
theorem implTreeOf_new {w : World} {lo : Nat} {cs : List Value} (hh : HeapAt w lo cs newH) : Calls Try.prog 5 #[.agg cs.toArray, .int .i64 1] w fun e w' => e = .returned (.tuple #[.agg (List.toArray [.string ⟨#[100, 111, 99]⟩, .slice none 0 0]), .bool true]) ∧ Below w.heap.size w w' := by
  have hh' : Hid (HeapAt w lo cs newH) := hh
  obtain ⟨g, o, c2, a3, c3, a4, c4, n3_, m3_, n5_, m5_, rfl, hg, _⟩ := newH_form hh
  clear hh
  have hb1 : Below w.heap.size w ((w.alloc (.cells (List.toArray [.int .i64 2, .int .i64 1, .slice (some ⟨g, o, none⟩) 1 c2, .slice a3 0 c3, .slice a4 0 c4]) 27)).alloc (.cells (List.toArray [.string ⟨#[]⟩, .slice none 0 0]) 31)) := ((Below.refl _ _).alloc (Nat.le_refl _) _).alloc (by simp) _
  have bR0 : Hid (Box ((w.alloc (.cells (List.toArray [.int .i64 2, .int .i64 1, .slice (some ⟨g, o, none⟩) 1 c2, .slice a3 0 c3, .slice a4 0 c4]) 27)).alloc (.cells (List.toArray [.string ⟨#[]⟩, .slice none 0 0]) 31)) (w.heap.size + 1) [.string ⟨#[]⟩, .slice none 0 0] 31) := by
    have h5 := Box.new (w.alloc (.cells (List.toArray [.int .i64 2, .int .i64 1, .slice (some ⟨g, o, none⟩) 1 c2, .slice a3 0 c3, .slice a4 0 c4]) 27)) [.string ⟨#[]⟩, .slice none 0 0] 31
    simp only [World.size_alloc] at h5
    exact h5
  go_enter Try.func5, Try.ntmps5
  go_wp2_with fail
  refine (rightIndex_any hh'.out hb1).mono ?_
  rintro e w1 ⟨hres, hb2⟩
  have hB2 : Below w.heap.size w w1 := hb1.trans (hb2.mono hb1.size)
  have hs2 : w.heap.size + 2 ≤ w1.heap.size := by have := hb2.size; simp at this; omega
  rcases hres with ⟨hi, _⟩ | ⟨_, bn, bo, rfl, hix⟩
  · rw [implB_new] at hi; cases hi
  have hb3 : Below w1.heap.size w1 (w1.alloc (.cells (List.toArray [.map (some bn), .map (some bo)]) 46)) := (Below.refl _ _).alloc (Nat.le_refl _) _
  have hB3 : Below w.heap.size w (w1.alloc (.cells (List.toArray [.map (some bn), .map (some bo)]) 46)) := hB2.alloc hB2.size _
  have hI := ((hix.on hb3).here hB3).1
  obtain ⟨n3, m3, n5, m5, hrun⟩ : ∃ (n3 : Option Addr) (m3 : Nat) (n5 : Option Addr) (m5 : Nat), (Instr.lookup 43 (.map (some bn)) (.int .i64 1) true).run Try.prog (w1.alloc (.cells (List.toArray [.map (some bn), .map (some bo)]) 46)) = .ok (.tuple #[.agg (List.toArray [.int .i64 1, .string ⟨#[100, 111, 99]⟩, .int .i64 0, .slice n3 0 m3, .int .i64 0, .slice n5 0 m5]), .bool true]) (w1.alloc (.cells (List.toArray [.map (some bn), .map (some bo)]) 46)) := by
    rcases run_look hI Try.underlying43 zeroN 1 with ⟨hn, _⟩ | ⟨x, cs', hx, hrun, hr⟩
    · rw [get_new] at hn; cases hn
    · rw [get_new] at hx
      injection hx with hx
      subst hx
      obtain ⟨k3, k5, rfl, t3, t5, _⟩ := hr
      obtain ⟨n3, m3, rfl⟩ := t3.form
      obtain ⟨n5, m5, rfl⟩ := t5.form
      exact ⟨n3, m3, n5, m5, hrun⟩
  have hB4 : Below w.heap.size w ((w1.alloc (.cells (List.toArray [.map (some bn), .map (some bo)]) 46)).alloc (.cells (List.toArray [.int .i64 1, .string ⟨#[100, 111, 99]⟩, .int .i64 0, .slice n3 0 m3, .int .i64 0, .slice n5 0 m5]) 42)) := hB3.alloc hB3.size _
  have bR4 : Hid (Box ((w1.alloc (.cells (List.toArray [.map (some bn), .map (some bo)]) 46)).alloc (.cells (List.toArray [.int .i64 1, .string ⟨#[100, 111, 99]⟩, .int .i64 0, .slice n3 0 m3, .int .i64 0, .slice n5 0 m5]) 42)) (w.heap.size + 1) [.string ⟨#[]⟩, .slice none 0 0] 31) := ((bR0.out.below hb2 bR0.out.lt).alloc _).alloc _
  clear hix hI
  go_wp2_with fail
  refine treeOf_new.mono ?_
  rintro e w5 ⟨rfl, hb5⟩
  have hB5 : Below w.heap.size w w5 := hB4.trans (hb5.mono hB4.size)
  have bR5 : Hid (Box w5 (w.heap.size + 1) [.string ⟨#[]⟩, .slice none 0 0] 31) := bR4.out.below hb5 bR4.out.lt
  have r0 := bR5.out.cell 0 rfl
  have r1 := bR5.out.cell 1 rfl
  have rf := bR5.out.unfrozen
  clear hrun
  go_wp2_with fail
  have f0 := ((bR5.out.set (i := 0) (.string ⟨#[100, 111, 99]⟩)).set (i := 1) (.slice none 0 0)).cell 0 rfl
  have f1 := ((bR5.out.set (i := 0) (.string ⟨#[100, 111, 99]⟩)).set (i := 1) (.slice none 0 0)).cell 1 rfl
  refine bodyPost_ret (v := .tuple #[.agg (List.toArray [.string ⟨#[100, 111, 99]⟩, .slice none 0 0]), .bool true]) (by simp [results, Try.results5, go_sem, f0, f1]) rfl ?_
  exact ⟨rfl, (hB5.setCell (p := ⟨w.heap.size + 1, 0, none⟩) (by simp) _).setCell (p := ⟨w.heap.size + 1, 1, none⟩) (by simp) _⟩
end Go.Proofs.Ytdfomaclnopfeaa
