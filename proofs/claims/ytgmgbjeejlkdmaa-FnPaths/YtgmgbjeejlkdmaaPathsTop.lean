/- What PathsOf returns, that of the specification and that of the program. -/
import Derived.Test.YtgmgbjeejlkdmaaPathsSpec
import Derived.Test.YtgmgbjeejlkdmaaOkWalks
namespace Go.Proofs.Ytgmgbjeejlkdmaa
open Go.RowKit
theorem right_of_ok2 {n : Nat} {d : TD} (h : okB (szD n d 30) = true) : RightT d := by
  cases e : szD n d 30 with
  | none => rw [e] at h; cases h
  | some m => exact ⟨n, 30, m, e, Int.le_refl _⟩
/-- what a call that makes lists of numbers tells -/
def AnsP (w w' : World) (xs : List (List Int)) (e : Ending) : Prop := ∃ (v : Value) (fs : List Nat), e = .returned v ∧ SeqOwn 1 IntsOwn w' v xs fs ∧ fs.Nodup ∧ ∀ b ∈ fs, w.heap.size ≤ b
set_option maxHeartbeats 2000000 in
theorem specPathsOf_any {n : Nat} {w : World} {lo : Nat} {t k : Value} {d : TD} (ht : TreeAt w lo n t k d) :
    Calls Try.prog 13 #[.agg #[t, k]] w fun e w' => AnsP w w' (pathsOfD (okB (szD n d 30)) n d) e ∧ Below w.heap.size w w' := by
  obtain ⟨rfl, _⟩ := ht.tag
  obtain ⟨_, a0, cap0, rfl⟩ := ht.form
  have ht0 : Hid (TreeAt w lo n _ _ d) := ht
  clear ht
  have hb0 : Hid (Below w.heap.size w (w.alloc (.cells #[.string (strT d), .slice a0 (kidsOf d).length cap0] 26))) := (Below.refl _ _).alloc (Nat.le_refl _) _
  have bx0 : Hid (Box (w.alloc (.cells #[.string (strT d), .slice a0 (kidsOf d).length cap0] 26)) w.heap.size [.string (strT d), .slice a0 (kidsOf d).length cap0] 26) := Box.new w _ _
  go_enter Try.func13, Try.ntmps13
  go_wp2_with fail
  refine (specTreeOk_any (ht0.out.below hb0.out)).mono ?_
  rintro e w1 ⟨rfl, hb1⟩
  have hB1 : Hid (Below w.heap.size w w1) := hb0.out.trans (hb1.mono hb0.out.size)
  have bx1 : Hid (Box w1 w.heap.size [.string (strT d), .slice a0 (kidsOf d).length cap0] 26) := bx0.out.below hb1 bx0.out.lt
  clear hb1 bx0 hb0
  have hok2 : okB (szD n d 30) = false ∨ okB (szD n d 30) = true := by cases okB (szD n d 30) <;> simp
  rcases hok2 with hok | hok
  · have H : Hid (pathsOfD (okB (szD n d 30)) n d = []) := pathsOfD_no hok
    rw [hok]
    clear hok
    go_wp2_with fail
    go_ret
    rw [H.out]
    refine ⟨⟨_, [], rfl, ?_, List.nodup_nil, by simp⟩, hB1.out.alloc hB1.out.size _⟩
    exact ⟨_, _, rfl, ⟨Nat.zero_le _, Nat.zero_le _⟩, Or.inl ⟨rfl, rfl⟩⟩
  have H : Hid (pathsOfD (okB (szD n d 30)) n d = pathsD n d []) := pathsOfD_yes hok
  have hR : Hid (RightT d) := right_of_ok2 hok
  rw [hok]
  clear hok
  have c0 := bx1.out.cell 0 rfl
  have c1 := bx1.out.cell 1 rfl
  go_wp2_with fail
  refine (paS_all (w0 := w1) (lo := lo) (base := w1.heap.size) n w1 _ _ _ _ d [] [] [] [] [] (ht0.out.below hB1.out) hR.out (Below.refl _ _) (Nat.le_refl _) (Nat.le_refl _) GrowOwn.nil (seqOwn_none _) (by simp) (by have := hR.out.cntT n; simp; omega) (by have := hR.out.cntT n; simp; omega)).mono ?_
  rintro e w2 ⟨v, bss, css, rfl, hg, hgr, _⟩
  have hg' : Hid (GrowOwn 30 1 IntsOwn w1.heap.size w2 v (pathsD n d []) bss css) := hg
  have hb2 : Hid (Below w1.heap.size w1 w2) := below_of_grown hgr (Nat.le_refl _) (fun g e => by cases e)
  clear hg hgr
  go_wp2_with fail
  go_ret
  obtain ⟨fs, hs, hlo⟩ := hg'.out.done
  rw [H.out]
  exact ⟨⟨_, fs, rfl, hs, hs.nodup, fun b q => Nat.le_trans hB1.out.size (hlo b q)⟩, hB1.out.trans (hb2.out.mono hB1.out.size)⟩
set_option maxHeartbeats 2000000 in
theorem implPathsOf_any {n : Nat} {w : World} {lo : Nat} {t k : Value} {d : TD} (ht : TreeAt w lo n t k d) :
    Calls Try.prog 8 #[.agg #[t, k]] w fun e w' => AnsP w w' (pathsOfD (okB (szD n d 30)) n d) e ∧ Below w.heap.size w w' := by
  obtain ⟨rfl, _⟩ := ht.tag
  obtain ⟨_, a0, cap0, rfl⟩ := ht.form
  have ht0 : Hid (TreeAt w lo n _ _ d) := ht
  clear ht
  have hb0 : Hid (Below w.heap.size w (w.alloc (.cells #[.string (strT d), .slice a0 (kidsOf d).length cap0] 26))) := (Below.refl _ _).alloc (Nat.le_refl _) _
  have bx0 : Hid (Box (w.alloc (.cells #[.string (strT d), .slice a0 (kidsOf d).length cap0] 26)) w.heap.size [.string (strT d), .slice a0 (kidsOf d).length cap0] 26) := Box.new w _ _
  go_enter Try.func8, Try.ntmps8
  go_wp2_with fail
  refine (implTreeOk_any (ht0.out.below hb0.out)).mono ?_
  rintro e w1 ⟨rfl, hb1⟩
  have hB1 : Hid (Below w.heap.size w w1) := hb0.out.trans (hb1.mono hb0.out.size)
  have bx1 : Hid (Box w1 w.heap.size [.string (strT d), .slice a0 (kidsOf d).length cap0] 26) := bx0.out.below hb1 bx0.out.lt
  clear hb1 bx0 hb0
  have hok2 : okB (szD n d 30) = false ∨ okB (szD n d 30) = true := by cases okB (szD n d 30) <;> simp
  rcases hok2 with hok | hok
  · have H : Hid (pathsOfD (okB (szD n d 30)) n d = []) := pathsOfD_no hok
    rw [hok]
    clear hok
    go_wp2_with fail
    go_ret
    rw [H.out]
    refine ⟨⟨_, [], rfl, ?_, List.nodup_nil, by simp⟩, hB1.out⟩
    exact ⟨_, _, rfl, ⟨Nat.zero_le _, Nat.zero_le _⟩, Or.inl ⟨rfl, rfl⟩⟩
  have H : Hid (pathsOfD (okB (szD n d 30)) n d = pathsD n d []) := pathsOfD_yes hok
  have hR : Hid (RightT d) := right_of_ok2 hok
  rw [hok]
  clear hok
  have c0 := bx1.out.cell 0 rfl
  have c1 := bx1.out.cell 1 rfl
  go_wp2_with fail
  refine (paI_all (w0 := w1) (lo := lo) (base := w1.heap.size) n w1 w1 _ _ _ _ d [] [] [] [] [] (ht0.out.below hB1.out) hR.out (Below.refl _ _) (Nat.le_refl _) (Nat.le_refl _) GrowOwn.nil (Below.refl _ _) (seqOwn_none _) List.nodup_nil (by simp) (by have := hR.out.cntT n; simp; omega) (by have := hR.out.cntT n; simp; omega)).mono ?_
  rintro e w2 ⟨v, bss, css, rfl, hg, hgr, _⟩
  have hg' : Hid (GrowOwn 30 1 IntsOwn w1.heap.size w2 v (pathsD n d []) bss css) := hg
  have hb2 : Hid (Below w1.heap.size w1 w2) := below_of_grown hgr (Nat.le_refl _) (fun g e => by cases e)
  clear hg hgr
  go_wp2_with fail
  go_ret
  obtain ⟨fs, hs, hlo⟩ := hg'.out.done
  rw [H.out]
  exact ⟨⟨_, fs, rfl, hs, hs.nodup, fun b q => Nat.le_trans hB1.out.size (hlo b q)⟩, hB1.out.trans (hb2.out.mono hB1.out.size)⟩
theorem pathsD_short : ∀ (n : Nat) (d : TD) (p q : List Int), q ∈ pathsD n d p → q.length + 1 ≤ p.length + cntTree n d := by
  intro n
  induction n with
  | zero => intro d p q h; cases h
  | succ n ih =>
    intro d p q h
    rw [pathsD_succ] at h
    rcases List.mem_cons.1 h with e | e
    · rw [e]; simp only [cntTree]; omega
    · obtain ⟨i, hi0, hi⟩ := List.mem_flatMap.1 e
      have hi1 : i < (kidsOf d).length := List.mem_range.1 hi0
      have h1 := ih _ _ _ hi
      have h2 := pos_succ (cnt := cntTree n) hi1
      have h3 : pos (cntTree n) (kidsOf d) (i + 1) ≤ cntL (cntTree n) (kidsOf d) := pos_le (by omega) (Nat.le_refl _)
      have e3 : nth (kidsOf d) i = (kidsOf d)[i] := by simp [nth, List.getD, List.getElem?_eq_getElem hi1]
      rw [e3] at h1
      simp only [List.length_append, List.length_cons, List.length_nil, cntTree] at h1 ⊢
      omega
end Go.Proofs.Ytgmgbjeejlkdmaa
