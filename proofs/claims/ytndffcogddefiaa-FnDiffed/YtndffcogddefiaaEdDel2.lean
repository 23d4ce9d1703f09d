/- slices.Delete of trees, one record: walked. -/
import Derived.Test.YtndffcogddefiaaEdDel
import Derived.Test.YtndffcogddefiaaEdRow
namespace Go.Proofs.Ytndffcogddefiaa
open Go.RowKit Go.Deep
theorem zeroTree : ∀ w, (zeroValue 26).run Try.prog w = .ok (.agg #[.string ByteArray.empty, .slice none 0 0]) w := by
  intro w
  obtain ⟨iT, hiT0, heT0, heT1, heT2⟩ := info_parts infoTree
  simp [zeroValue, typeInfo, hiT0, heT0]
theorem sl_to_at (g o n cap k : Nat) (h : k ≤ cap) (w : World) : (Instr.slice 24 (.slice (some ⟨g, o, none⟩) n cap) none (some (.int .i64 (k : Int))) none).run Try.prog w = .ok (.slice (some ⟨g, o, none⟩) k cap) w := by
  have h1 : (0 : Int) ≤ (k : Int) := by omega
  have h2 : (k : Int) ≤ (cap : Int) := by omega
  simp [go_sem, Try.underlying24, h1, h2]
theorem sl_from_at (g o n cap k : Nat) (h : k + 1 ≤ n) (hn : n ≤ cap) : ∃ o' c', (∀ w : World, (Instr.slice 24 (.slice (some ⟨g, o, none⟩) n cap) (some (.int .i64 ((k : Int) + 1))) none none).run Try.prog w = .ok (.slice (some ⟨g, o', none⟩) (n - (k + 1)) c') w) ∧ (0 < n - (k + 1) → o' = o + (k + 1) * 2) := by
  have h1 : (0 : Int) ≤ (k : Int) + 1 := by omega
  have h2 : (k : Int) + 1 ≤ (n : Int) := by omega
  have h3 : ((k : Int) + 1).toNat = k + 1 := by omega
  by_cases e : k + 1 = cap
  · refine ⟨o, 0, fun w => ?_, fun q => by omega⟩
    have en : n = cap := by omega
    subst en
    subst e
    simp [go_sem, Try.underlying24, h1, h3]
  · refine ⟨o + (k + 1) * 2, cap - (k + 1), fun w => ?_, fun _ => rfl⟩
    simp [go_sem, Try.underlying24, h1, h2, h3]
    intro q; omega
theorem sl_last_at (g o m n cap : Nat) (h : n = m + 1) (hn : n ≤ cap) (w : World) : (Instr.slice 24 (.slice (some ⟨g, o, none⟩) m cap) (some (.int .i64 (m : Int))) (some (.int .i64 (n : Int))) none).run Try.prog w = .ok (.slice (some ⟨g, o + m * 2, none⟩) 1 (cap - m)) w := by
  subst h
  have h1 : (0 : Int) ≤ (m : Int) := by omega
  have h2 : (m : Int) + 1 ≤ (cap : Int) := by omega
  have h3 : ((m : Int) + 1).toNat = m + 1 := by omega
  have h4 : (0 : Int) ≤ (m : Int) + 1 := by omega
  simp [go_sem, Try.underlying24, h1, h2, h3, h4]
  omega
theorem sl_three_at (g o i n cap : Nat) (h : i + 1 ≤ n) (hn : n ≤ cap) (w : World) : (Instr.slice 24 (.slice (some ⟨g, o, none⟩) n cap) (some (.int .i64 (i : Int))) (some (.int .i64 ((i : Int) + 1))) (some (.int .i64 (n : Int)))).run Try.prog w = .ok (.slice (some ⟨g, o + i * 2, none⟩) 1 (n - i)) w := by
  have h1 : (0 : Int) ≤ (i : Int) := by omega
  have h2 : (i : Int) + 1 ≤ (n : Int) := by omega
  have h3 : ((i : Int) + 1).toNat = i + 1 := by omega
  have h4 : (0 : Int) ≤ (i : Int) + 1 := by omega
  have h5 : (n : Int) ≤ (cap : Int) := by omega
  simp [go_sem, Try.underlying24, h1, h2, h3, h4, h5]
  omega
/-- what slices.Delete answers -/
def DelR {α : Type} (w w' : World) (g off m cap i : Nat) (es : List (It α)) (e : Ending) : Prop :=
  e = .returned (.slice (some ⟨g, off, none⟩) m cap) ∧ ∃ vs : List Value, vs.length = 2 ∧ w' = putCells (putCells w.drew g (off + i * 2) ((es.drop (i + 1)).map (·.1)).flatten) g (off + (es.length - 1) * 2) vs
set_option maxRecDepth 100000 in
set_option maxHeartbeats 8000000 in
theorem delete_any {α : Type} {R : World → List Value → α → List Nat → Prop} {w : World} {g off T n m i cap : Nat} {C : Array Value} {es : List (It α)} {xs : List α} {fs : List Nat} (hit : Items 2 R w g off T C es xs fs) (hone : ∀ e ∈ es, ∀ u ∈ e.1, u.oneCell' = true) (hel : es.length = n) (hnm : n = m + 1) (hi : i < n) (hcap : n ≤ cap) :
    Calls Try.prog 76 #[.slice (some ⟨g, off, none⟩) n cap, .int .i64 (i : Int), .int .i64 ((i : Int) + 1)] w fun e w' => DelR w w' g off m cap i es e := by
  obtain ⟨rfl, h1, h2, rfl, h4, h5⟩ := hit
  simp only [List.length_map] at h2
  obtain ⟨iT, hiT0, heT0, heT1, heT2⟩ := info_parts infoTree
  have hiT : Hid (Try.prog.info? 26 = some iT) := hiT0
  have heT : Hid (iT.zero = some (.agg #[.string ByteArray.empty, .slice none 0 0]) ∧ iT.size = 2 ∧ iT.bytes = 40) := ⟨heT0, heT1, heT2⟩
  obtain ⟨o3, c3, hsl2, ho3⟩ := sl_from_at g off n cap i (by omega) hcap
  have hsl1 := sl_to_at g off n cap i (by omega)
  have hsl3 := sl_last_at g off m n cap hnm hcap
  have hsl0 := sl_three_at g off i n cap (by omega) hcap
  obtain ⟨r, hr⟩ : ∃ r, n - (i + 1) = r := ⟨_, rfl⟩
  rw [hr] at ho3
  simp only [hr] at hsl2
  have hcs : ∀ cs ∈ (es.drop (i + 1)).map (·.1), cs.length = 2 := fun cs hcs => by
    obtain ⟨e, he, rfl⟩ := List.mem_map.1 hcs
    obtain ⟨j, hj, rfl⟩ := List.getElem_of_mem (List.mem_of_mem_drop he)
    exact (h5 j hj).1
  have hnl := flat_len hcs
  simp only [List.length_map, List.length_drop, hel, hr] at hnl
  have hnw : Hid (((es.drop (i + 1)).map (·.1)).flatten.length = r * 2) := hnl
  have hnc : Hid (∀ j u, ((es.drop (i + 1)).map (·.1)).flatten[j]? = some u → w.drew.cell? ((⟨g, o3, none⟩ : Addr).add j) = some u) := fun j u hu => by
    have hj := (List.getElem?_eq_some_iff.1 hu).1
    rw [hnl] at hj
    rw [add_lit, ho3 (by omega), show w.drew.cell? ⟨g, off + (i + 1) * 2 + j, none⟩ = w.cell? ⟨g, off + (i + 1) * 2 + j, none⟩ from rfl, blk_cell h1]
    have e := flat_get hcs (i := j / 2) (m := j % 2) (by simp [hel]; omega) (by omega)
    rw [show j / 2 * 2 + j % 2 = j by omega, hu] at e
    have q := (h5 (i + 1 + j / 2) (by omega)).2.1 (j % 2) (by omega)
    simp only [List.getElem_map, List.getElem_drop] at e
    rw [e, ← q]
    congr 1
    omega
  have hno : Hid (∀ u ∈ ((es.drop (i + 1)).map (·.1)).flatten, u.oneCell' = true) := fun u hu => by
    obtain ⟨cs, hc, hu⟩ := List.mem_flatten.1 hu
    obtain ⟨e, he, rfl⟩ := List.mem_map.1 hc
    exact hone e (List.mem_of_mem_drop he) u hu
  have hir : Hid (i + r = m) := by show _ = _; omega
  have hroom : Hid (i + r ≤ cap) := by show _ ≤ _; omega
  have hsp : Hid (∀ j, j < ((es.drop (i + 1)).map (·.1)).flatten.length → (w.drew.cell? ⟨g, off + i * 2 + j, none⟩).isSome = true ∧ w.drew.frozen? ⟨g, off + i * 2 + j, none⟩ = false) := fun j hj => by
    rw [hnl] at hj
    refine ⟨?_, blk_unfrozen (w := w.drew) h1 _⟩
    rw [blk_cell (w := w.drew) h1, Array.getElem?_eq_getElem (by omega)]
    rfl
  obtain ⟨C1, a1, a2, a3, a4⟩ := putCells_block ((es.drop (i + 1)).map (·.1)).flatten w.drew g (off + i * 2) C T h1 (by omega)
  obtain ⟨vs, hvl, hrun⟩ := run_clear_rows (P := Try.prog) (putCells w.drew g (off + i * 2) ((es.drop (i + 1)).map (·.1)).flatten) 24 26 _ 2 Try.underlying24 zeroTree rfl (by intro v hv; simp [Value.cells] at hv; rcases hv with rfl | rfl <;> rfl) g (off + m * 2) 1 (cap - m) (by omega) (fun j hj => by rw [blk_cell a1, Array.getElem?_eq_getElem (by omega)]; rfl) (fun j => blk_unfrozen a1 _)
  have hclr : ∀ w10, w10 = (putCells w.drew g (off + i * 2) ((es.drop (i + 1)).map (·.1)).flatten) → True ∧ ∀ ty, (Builtin.clear_ #[24] ty #[.slice (some ⟨g, off + m * 2, none⟩) 1 (cap - m)]).run Try.prog w10 = .ok (.tuple #[]) (putCells w10 g (off + m * 2) vs) := fun w10 e => ⟨trivial, by rw [e]; exact hrun⟩
  have hfin : Hid (∀ w10, w10 = (putCells w.drew g (off + i * 2) ((es.drop (i + 1)).map (·.1)).flatten) → ∃ vs' : List Value, vs'.length = 2 ∧ putCells w10 g (off + m * 2) vs = putCells (putCells w.drew g (off + i * 2) ((es.drop (i + 1)).map (·.1)).flatten) g (off + (es.length - 1) * 2) vs') := fun w10 e => ⟨vs, by omega, by rw [e, hel, hnm]; rfl⟩
  have hne : ¬ ((i : Int) = (i : Int) + 1) := by omega
  clear a1 a2 a3 a4 h1 h2 h4 h5 hnl hcs hr ho3 hrun hvl hone hiT0 heT0 heT1 heT2 hnm hel
  go_enter Try.func76, Try.ntmps76
  go_upto_region 5 with fail
  refine wp_region_held_drew (S := fun w' => True) (by kernel_rfl) trivial (fun hHeld => ?_)
  refine tq (i := 0) (d := 20) ?_
  simp only [sz, ss]
  refine tq (i := 1) (d := 21) ?_
  simp only [sz, ss]
  refine tq (i := 2) (d := 22) ?_
  simp only [sz, ss]
  refine tq (i := 3) (d := 23) ?_
  simp only [sz, ss]
  refine tq (i := 4) (d := 24) ?_
  simp only [sz, ss]
  refine tq (i := 5) (d := 25) ?_
  simp only [sz, ss]
  refine wpAnyH_ready (rs := [6]) (by kernel_rfl) (by simp) ?_
  refine AllReadyH.cons rfl (fun K hK => ?_) AllReadyH.nil
  refine step_append_room rfl _ _ 24 rfl 26 iT 2 Try.underlying24 hiT.out heT.out.2.1 g off i cap rfl ⟨g, o3, none⟩ r c3 ((es.drop (i + 1)).map (·.1)).flatten rfl hnw.out hnc.out hno.out hroom.out hsp.out ?_
  rw [hir.out, setCells_put]
  obtain ⟨w10, hw10⟩ : ∃ w10, (putCells w.drew g (off + i * 2) ((es.drop (i + 1)).map (·.1)).flatten) = w10 := ⟨_, rfl⟩
  rw [hw10]
  refine hK.out _ _ trivial (fun hHeld => ?_)
  clear hK K
  refine tq (i := 7) (d := 0) ?_
  simp only [sz, ss]
  refine wpAnyH_done (by kernel_rfl) ?_ _
  have hr0 := (hclr w10 hw10.symm).2 0
  have hx : Hid (w10 = (putCells w.drew g (off + i * 2) ((es.drop (i + 1)).map (·.1)).flatten)) := hw10.symm
  clear hw10
  go_wp2_with fail
  go_ret
  exact ⟨rfl, hfin.out _ hx.out⟩
end Go.Proofs.Ytndffcogddefiaa
