/- How many marks the edits between two trees take. -/
import Derived.Test.YtfncmndgdomjiaaDfTop
import Derived.Test.YtfncmndgdomjiaaEdMark
namespace Go.Proofs.Ytfncmndgdomjiaa
open Go.RowKit
theorem editsL {n : Nat} {w : World} {k : Value} {xs : List EditD} {fs : List Nat} (h : SeqOwn 5 (EditO n) w k xs fs) : SeqAt 5 (EditL n) w 0 k xs := h.at (fun _ _ _ _ r q => EditO_at r q) (fun _ _ => Nat.zero_le _)
theorem pos_bound {α : Type} {cnt : α → Nat} {B : Nat} {xs : List α} (h : ∀ i, (hi : i < xs.length) → cnt xs[i] ≤ B) : ∀ j, j ≤ xs.length → pos cnt xs j ≤ j * B := by
  intro j
  induction j with
  | zero => intro _; rw [pos_zero]; omega
  | succ j ih =>
    intro hj
    rw [pos_succ (by omega), Nat.succ_mul]
    have h1 := ih (by omega)
    have h2 := h j (by omega)
    omega
theorem treeO_ta {n : Nat} {w : World} {t k : Value} {d : TD} {fs : List Nat} (h : TreeO n w [t, k] d fs) : TreeAt w 0 n t k d := TreeL.at n _ _ _ (TreeO_at (lo := 0) n _ _ _ _ h (fun _ _ => Nat.zero_le _))
def resL (o : Option (List EditD)) : List EditD := o.getD []
theorem DfR.all {n : Nat} {w w' : World} {o : Option (List EditD)} {e : Ending} (h : DfR n w w' o e) : ∃ (a : Option Addr) (c : Nat) (fs : List Nat), e = .returned (.tuple #[.slice a (resL o).length c, .bool o.isSome]) ∧ SeqOwn 5 (EditO n) w' (.slice a (resL o).length c) (resL o) fs ∧ fs.Nodup ∧ (∀ b ∈ fs, w.heap.size ≤ b) ∧ Below w.heap.size w w' := by
  rcases h with ⟨rfl, rfl, hb⟩ | ⟨ys, v, fs, rfl, rfl, hs, hn, hl, hb⟩
  · exact ⟨none, 0, [], rfl, ⟨_, _, rfl, ⟨Nat.zero_le _, Nat.zero_le _⟩, Or.inl ⟨rfl, rfl⟩⟩, List.nodup_nil, by simp, hb⟩
  · obtain ⟨a, c, rfl⟩ := hs.form
    exact ⟨a, c, fs, rfl, hs, hn, hl, hb⟩
def GoodE (B : Nat) (e : EditD) : Prop := e.vPath.length ≤ B ∧ (RightT e.vTree ∨ e.vTree = zeroT)
theorem GoodE.more {B C : Nat} {e : EditD} (h : GoodE B e) (q : B ≤ C) : GoodE C e := ⟨Nat.le_trans h.1 q, h.2⟩
theorem cnt_kid {α : Type} {cnt : α → Nat} {xs : List α} {i : Nat} (h : i < xs.length) : cnt xs[i] ≤ cntL cnt xs := by
  have h1 := pos_le (cnt := cnt) (xs := xs) (show i + 1 ≤ xs.length from h) (Nat.le_refl _)
  rw [pos_succ h] at h1
  unfold cntL
  omega
theorem cutsD_good : ∀ (n : Nat) (a b : TD) (p : List Int), ∀ e ∈ cutsD n a b p, GoodE (p.length + cntTree (n + 1) a) e := by
  intro n
  induction n with
  | zero => intro a b p e he; cases he
  | succ n ih =>
    intro a b p e he
    have hc : cntTree (n + 1 + 1) a = 1 + cntL (cntTree (n + 1)) (kidsOf a) := rfl
    have he' : e ∈ renJ a b p ++ delJ p (kidsOf a).length ((kidsOf a).length - (kidsOf b).length) ++ cutJ (cutsD n) a b p (min (kidsOf a).length (kidsOf b).length) := he
    rcases List.mem_append.1 he' with q | q
    · rcases List.mem_append.1 q with q | q
      · unfold renJ at q
        split at q
        · cases q
        · rw [List.mem_singleton] at q; subst q
          exact ⟨by show p.length ≤ _; omega, Or.inr rfl⟩
      · unfold delJ at q
        rw [List.mem_map] at q
        obtain ⟨t, _, rfl⟩ := q
        exact ⟨by show (p ++ [_]).length ≤ _; rw [List.length_append, List.length_singleton]; omega, Or.inr rfl⟩
    · unfold cutJ at q
      rw [List.mem_flatMap] at q
      obtain ⟨i, hi, hq⟩ := q
      rw [List.mem_range] at hi
      have hia : i < (kidsOf a).length := by omega
      have h1 := ih _ _ _ e hq
      rw [nth_get hia] at h1
      have h2 := cnt_kid (cnt := cntTree (n + 1)) hia
      refine h1.more ?_
      rw [List.length_append, List.length_singleton]
      omega
theorem growD_good : ∀ (n : Nat) (a b : TD) (p : List Int), RightT b → ∀ e ∈ growD n a b p, GoodE (p.length + cntTree (n + 1) b) e := by
  intro n
  induction n with
  | zero => intro a b p _ e he; cases he
  | succ n ih =>
    intro a b p hR e he
    have hc : cntTree (n + 1 + 1) b = 1 + cntL (cntTree (n + 1)) (kidsOf b) := rfl
    have he' : e ∈ growJ (growD n) a b p (kidsOf b).length := he
    unfold growJ at he'
    rw [List.mem_flatMap] at he'
    obtain ⟨i, hi, hq⟩ := he'
    rw [List.mem_range] at hi
    have h2 := cnt_kid (cnt := cntTree (n + 1)) hi
    split at hq
    · have h1 := ih _ _ _ (hR.nth hi) e hq
      rw [nth_get hi] at h1
      refine h1.more ?_
      rw [List.length_append, List.length_singleton]
      omega
    · rw [List.mem_singleton] at hq; subst hq
      exact ⟨by show (p ++ [_]).length ≤ _; rw [List.length_append, List.length_singleton]; omega, Or.inl (hR.nth hi)⟩
theorem cntEd_good {L : Nat} {e : EditD} (h : GoodE 31 e) : cntEd L e ≤ 64 := by
  unfold cntEd
  rw [cntL_int]
  have h1 := h.1
  rcases h.2 with q | q
  · have := q.cnt L; omega
  · rw [q]; have : cntL (cntTree L) (kidsOf zeroT) = 0 := rfl; omega
theorem diffCnt (n : Nat) (a b : TD) (L : Nat) : cntL (cntEd L) (resL (diffD n a b)) ≤ 4000 := by
  unfold diffD
  split
  · next h =>
    have hRa := treeB_right h.1
    have hRb := treeB_right h.2
    have hca : cntTree (n + 1) a ≤ 31 := by have h1 := hRa.cnt n; show 1 + cntL (cntTree n) (kidsOf a) ≤ 31; omega
    have hcb : cntTree (n + 1) b ≤ 31 := by have h1 := hRb.cnt n; show 1 + cntL (cntTree n) (kidsOf b) ≤ 31; omega
    have hl1 := cutsD_len n a b []
    have hl2 := growD_len n a b []
    have hall : ∀ e ∈ cutsD n a b [] ++ growD n a b [], GoodE 31 e := by
      intro e he
      rcases List.mem_append.1 he with q | q
      · exact (cutsD_good n a b [] e q).more (by simp; exact hca)
      · exact (growD_good n a b [] hRb e q).more (by simp; exact hcb)
    show cntL (cntEd L) (cutsD n a b [] ++ growD n a b []) ≤ 4000
    have hp := pos_bound (cnt := cntEd L) (B := 64) (xs := cutsD n a b [] ++ growD n a b []) (fun i hi => cntEd_good (hall _ (List.getElem_mem hi))) _ (Nat.le_refl _)
    unfold cntL
    rw [List.length_append] at hp ⊢
    omega
  · exact Nat.zero_le _
end Go.Proofs.Ytfncmndgdomjiaa
