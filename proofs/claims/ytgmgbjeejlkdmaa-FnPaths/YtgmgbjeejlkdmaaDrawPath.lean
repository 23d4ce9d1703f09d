/- What is drawn as a path. -/
import Derived.Test.YtgmgbjeejlkdmaaDrawsNum
import Derived.Test.YtgmgbjeejlkdmaaPathsTop
namespace Go.Proofs.Ytgmgbjeejlkdmaa
open Go.RowKit
theorem one_int {w : World} {v : Int} (hv : InI v) {lo : Nat} (hlo : lo ≤ w.heap.size) : SeqAt 1 IntAt (w.alloc (.cells #[.int .i64 v] 2)) lo (.slice (some ⟨w.heap.size, 0, none⟩) 1 1) [v] := by
  have hb : Box (w.alloc (.cells #[.int .i64 v] 2)) w.heap.size [.int .i64 v] 2 := Box.new w _ _
  refine ⟨_, _, rfl, ⟨by simp [maxLen], by simp⟩, fun _ => ⟨_, _, rfl, hlo, hb.lt, fun i hi => ⟨[.int .i64 v], rfl, fun m hm => ?_, ?_⟩⟩⟩
  · have hi0 : i = 0 := by simpa using hi
    have hm0 : m = 0 := by simpa using hm
    subst hi0 hm0
    exact hb.cell 0 rfl
  · have hi0 : i = 0 := by simpa using hi
    subst hi0
    exact ⟨rfl, hv⟩
/-- what is drawn: some list of numbers, not long -/
def PathAns (w w' : World) (n : Nat) (e : Ending) : Prop := ∃ (v : Value) (p : List Int), e = .returned v ∧ SeqAt 1 IntAt w' w.heap.size v p ∧ p.length ≤ n + 1
set_option maxHeartbeats 2000000 in
theorem path_any {w : World} {g : Nat} {a : Option Addr} {nn cap n lo : Nat} {t k : Value} {d : TD} (h : RdAt w g a nn cap) (ht : TreeAt w lo n t k d) :
    Calls Try.prog 29 #[.pointer (some ⟨g, 0, none⟩), .agg #[t, k]] w fun e w' => PathAns w w' n e ∧ RdAt w' g a nn cap ∧ w.grownBy w' (some g) := by
  have h' : Hid (RdAt w g a nn cap) := h
  have ht' : Hid (TreeAt w lo n t k d) := ht
  have hlt := h.lt
  clear h
  obtain ⟨⟨s, rfl⟩, a0, cap0, rfl⟩ := ht.form
  clear ht
  have hb0 : Hid (Below w.heap.size w (w.alloc (.cells #[.string s, .slice a0 (kidsOf d).length cap0] 26))) := (Below.refl _ _).alloc (Nat.le_refl _) _
  go_enter Try.func29, Try.ntmps29
  go_wp2_with fail
  refine (specPathsOf_any (n := n) (by exact ht'.out.below hb0.out)).mono ?_
  rintro e w1 ⟨⟨vq, fs, rfl, hs, _, hfs⟩, hb1⟩
  have hB1 : Hid (Below w.heap.size w w1) := hb0.out.trans (hb1.mono hb0.out.size)
  have hs' : Hid (SeqOwn 1 IntsOwn w1 vq (pathsOfD (okB (szD n d 30)) n d) fs) := hs
  have hfs' : Hid (∀ b ∈ fs, w.heap.size ≤ b) := fun b q => Nat.le_trans hb0.out.size (hfs b q)
  have hr1 : Hid (RdAt w1 g a nn cap) := h'.out.below hB1.out
  have hg1 : Hid (w.grownBy w1 (some g)) := grown_of_below hB1.out _
  have hL : (pathsOfD (okB (szD n d 30)) n d).length ≤ 30 := by
    rcases (by cases okB (szD n d 30) <;> simp : okB (szD n d 30) = false ∨ okB (szD n d 30) = true) with q | q
    · rw [pathsOfD_no q]; simp
    · rw [pathsOfD_yes q, pathsD_len]; exact (right_of_ok2 q).cntT n
  have hdeep : Hid (∀ q ∈ pathsOfD (okB (szD n d 30)) n d, q.length ≤ n + 1) := fun q hq => by
    rcases (by cases okB (szD n d 30) <;> simp : okB (szD n d 30) = false ∨ okB (szD n d 30) = true) with z | z
    · rw [pathsOfD_no z] at hq; cases hq
    · rw [pathsOfD_yes z] at hq; have := pathsD_deep n d [] q hq; simp at this; omega
  generalize pathsOfD (okB (szD n d 30)) n d = PO at hs' hL hdeep
  obtain ⟨aq, cq, rfl⟩ := hs'.out.form
  clear hs hfs hb1 hb0 h' ht'
  have hz1 := hB1.out.size
  by_cases hL0 : PO.length = 0
  · have hL0' : ((PO.length : Int) == 0) = true := by simp [hL0]
    have hL0'' : (PO.length : Int) = 0 := by omega
    go_wp2_with fail
    refine (off_any hr1.out 0 2 (by omega) (by omega) (by omega) (by omega)).mono ?_
    rintro e w2 ⟨v, rfl, hv, hr2, hg2⟩
    have hr2' : Hid (RdAt w2 g a nn cap) := hr2
    have hg2' : Hid (w.grownBy w2 (some g)) := grown_on hg1.out hg2
    have hz2 := hg2'.out.size
    clear hr2 hg2
    go_wp2_with fail
    go_ret
    exact ⟨⟨_, [v], rfl, one_int hv hz2, by simp⟩, hr2'.out.below ((Below.refl _ _).alloc (Nat.le_refl _) _), grown_on hg2'.out (grown_of_below ((Below.refl _ _).alloc (Nat.le_refl _) _) _)⟩
  · have hL1 : ¬ (PO.length : Int) = 0 := by omega
    go_wp2_with fail
    refine (once_any hr1.out 10 (by omega) (by omega)).mono ?_
    rintro e w2 ⟨b, rfl, hr2, hg2⟩
    have hr2' : Hid (RdAt w2 g a nn cap) := hr2
    have hg2' : Hid (w.grownBy w2 (some g)) := grown_on hg1.out hg2
    have hs2 : Hid (SeqOwn 1 IntsOwn w2 (.slice aq PO.length cq) PO fs) := hs'.out.stays IntsOwn_stays (fun b q => hg2.block b (hs'.out.lt IntsOwn_lt b q) (fun e => by injection e with e; have := hfs'.out b q; omega))
    clear hr2 hg2 hs'
    cases b with
    | true =>
      go_wp2_with fail
      refine (off_any hr2'.out 0 2 (by omega) (by omega) (by omega) (by omega)).mono ?_
      rintro e w3 ⟨v, rfl, hv, hr3, hg3⟩
      have hr3' : Hid (RdAt w3 g a nn cap) := hr3
      have hg3' : Hid (w.grownBy w3 (some g)) := grown_on hg2'.out hg3
      have hz3 := hg3'.out.size
      clear hr3 hg3
      go_wp2_with fail
      go_ret
      exact ⟨⟨_, [v], rfl, one_int hv hz3, by simp⟩, hr3'.out.below ((Below.refl _ _).alloc (Nat.le_refl _) _), grown_on hg3'.out (grown_of_below ((Below.refl _ _).alloc (Nat.le_refl _) _) _)⟩
    | false =>
      go_wp2_with fail
      refine (below_any hr2'.out PO.length (by omega) (by omega)).mono ?_
      rintro e w3 ⟨v, rfl, v0, v1, hr3, hg3⟩
      have hr3' : Hid (RdAt w3 g a nn cap) := hr3
      have hg3' : Hid (w.grownBy w3 (some g)) := grown_on hg2'.out hg3
      have hs3 : SeqOwn 1 IntsOwn w3 (.slice aq PO.length cq) PO fs := hs2.out.stays IntsOwn_stays (fun b q => hg3.block b (hs2.out.lt IntsOwn_lt b q) (fun e => by injection e with e; have := hfs'.out b q; omega))
      obtain ⟨i, rfl⟩ : ∃ i : Nat, v = i := ⟨v.toNat, by omega⟩
      have hi : i < PO.length := by omega
      have hsat : SeqAt 1 IntsAt w3 w.heap.size (.slice aq PO.length cq) PO := hs3.at IntsOwn_at hfs'.out
      obtain ⟨a', cap', e, hm, hx⟩ := hsat
      injection e with e1 _ e3
      subst e1 e3
      obtain ⟨bb, off, rfl, _, _, hc⟩ := hx (by omega)
      obtain ⟨cs, _, lie, kk, rfl, hkk⟩ := hc i hi
      have z0 := lie 0 (by simp)
      simp only [List.getElem?_cons_zero, Nat.add_zero, Nat.mul_one] at z0
      have hq := hdeep.out PO[i] (List.getElem_mem hi)
      have hkk' : Hid (SeqAt 1 IntAt w3 w.heap.size kk PO[i]) := hkk
      clear hr3 hg3 lie hc hx hkk hs3 hs2
      go_wp2_with fail
      go_ret
      exact ⟨⟨_, PO[i], rfl, hkk'.out, hq⟩, hr3'.out, hg3'.out⟩
end Go.Proofs.Ytgmgbjeejlkdmaa
