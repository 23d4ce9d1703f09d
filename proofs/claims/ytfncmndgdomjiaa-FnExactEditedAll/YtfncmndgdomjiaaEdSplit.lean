/- splitPath of the program: walked. -/
import Derived.Test.YtfncmndgdomjiaaEdRen
namespace Go.Proofs.Ytfncmndgdomjiaa
open Go.RowKit Go.Deep
set_option maxRecDepth 100000 in
set_option maxHeartbeats 8000000 in
theorem splitPath_any {w : World} {lo m cp : Nat} {ap : Option Addr} {path : List Int} (hp : SeqAt 1 IntAt w lo (.slice ap path.length cp) path) (hm : path.length = m + 1) (hcp : path.length ≤ cp) :
    Calls Try.prog 73 #[.slice ap path.length cp] w fun e w' => ∃ P, (e = .returned (.tuple #[.slice ap m cp, .int .i64 P]) ∧ path = path.take m ++ [P]) ∧ Below w.heap.size w w' := by
  obtain ⟨ap', cp', e', hmx, hx⟩ := hp
  injection e' with e1 _ e3
  subst e1 e3
  unfold maxLen at hmx
  obtain ⟨bp, op, rfl, hlo, hbp, hc⟩ := hx (by omega)
  obtain ⟨cs1, _, lie, hr⟩ := hc m (by omega)
  have hP0 : path = path.take m ++ [path[m]'(by omega)] := by
    have q := List.take_succ_eq_append_getElem (l := path) (i := m) (by omega)
    rw [List.take_of_length_le (by omega)] at q
    exact q
  generalize path[m]'(by omega) = P at hr hP0
  obtain ⟨rfl, hPI⟩ := hr
  have hP : Hid (path = path.take m ++ [P]) := hP0
  have x0 := lie 0 (by simp)
  simp only [List.getElem?_cons_zero, Nat.add_zero, Nat.mul_one] at x0
  have hmc : m ≤ cp := by omega
  have hmm : (m : Int) < (m : Int) + 1 := by omega
  generalize hL : path.length = L at hm hmx ⊢
  subst hm
  clear hc hx lie hP0
  go_enter Try.func73, Try.ntmps73
  go_upto_region 2 with fail
  refine wp_region_held_drew (S := fun w' => w'.cell? ⟨bp, op + m, none⟩ = some (.int .i64 P)) (by kernel_rfl) x0 (fun hHeld => ?_)
  refine tq (i := 0) (d := 8) ?_
  simp only [sz, ss]
  refine tq (i := 1) (d := 9) ?_
  simp only [sz, ss]
  refine take_lit (i := 2) (d := 10) (v := .slice (some ⟨bp, op, none⟩) m cp) rfl rfl (by kernel_rfl) (by kernel_rfl) (by kernel_rfl) (fun _ _ _ h => h) (Or.inl ⟨by rfl, ?_⟩) (by assumption) ?_
  · (intro w9 hS9; (try dsimp only at hS9); go_simp)
  simp only [sz, ss]
  refine tq (i := 3) (d := 11) ?_
  simp only [sz, ss]
  refine tq (i := 4) (d := 12) ?_
  simp only [sz, ss]
  refine take_lit (i := 5) (d := 13) (v := .pointer (some ⟨bp, op + m, none⟩)) rfl rfl (by kernel_rfl) (by kernel_rfl) (by kernel_rfl) (fun _ _ _ h => h) (Or.inl ⟨by rfl, ?_⟩) (by assumption) ?_
  · (intro w9 hS9; (try dsimp only at hS9); go_simp)
  simp only [sz, ss]
  refine tq (i := 6) (d := 14) ?_
  simp only [sz, ss]
  refine tq (i := 7) (d := 2) ?_
  simp only [sz, ss]
  refine tq (i := 8) (d := 3) ?_
  simp only [sz, ss]
  refine wpAnyH_done (by kernel_rfl) ?_ _
  go_wp2_with fail
  go_ret2
  exact ⟨⟨_, rfl, hP.out⟩, Below.drew (Below.refl _ _)⟩
end Go.Proofs.Ytfncmndgdomjiaa
