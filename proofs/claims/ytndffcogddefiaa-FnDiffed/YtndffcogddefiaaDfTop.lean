/- Diffed of the specification and of the program: walked. -/
import Derived.Test.YtndffcogddefiaaDfDiff
import Derived.Test.YtndffcogddefiaaCntNine
namespace Go.Proofs.Ytndffcogddefiaa
open Go.RowKit Go.Deep
/-- what Diffed tells -/
def DfR (n : Nat) (w w' : World) (o : Option (List EditD)) (e : Ending) : Prop :=
  (o = none ∧ e = .returned (.tuple #[.slice none 0 0, .bool false]) ∧ Below w.heap.size w w') ∨
  (∃ (ys : List EditD) (v : Value) (fs : List Nat), o = some ys ∧ e = .returned (.tuple #[v, .bool true]) ∧ SeqOwn 5 (EditO n) w' v ys fs ∧ fs.Nodup ∧ (∀ b ∈ fs, w.heap.size ≤ b) ∧ Below w.heap.size w w')
theorem DfR.no {n : Nat} {w w' : World} {o : Option (List EditD)} (h : o = none) (hb : Below w.heap.size w w') : DfR n w w' o (.returned (.tuple #[.slice none 0 0, .bool false])) := Or.inl ⟨h, rfl, hb⟩
theorem DfR.yes {n : Nat} {w w2 w' : World} {o : Option (List EditD)} {ys : List EditD} {v : Value} {bss : List (List Nat)} {css : List (List Value)} (h : o = some ys) (hg : GrowOwn 29 5 (EditO n) w2.heap.size w' v ys bss css) (hb : Below w.heap.size w w') (hz : w.heap.size ≤ w2.heap.size) : DfR n w w' o (.returned (.tuple #[v, .bool true])) := by
  obtain ⟨fs, hs, hlo⟩ := hg.done
  exact Or.inr ⟨ys, v, fs, h, rfl, hs, hs.nodup, fun b q => Nat.le_trans hz (hlo b q), hb⟩
theorem undrewB {w w' : World} {n : Nat} (_ : n ≤ w.heap.size) (h : Below n w.drew w') : Below n w w' := ⟨h.os, h.tape, h.output, h.size, h.block⟩
set_option maxRecDepth 100000 in
set_option maxHeartbeats 8000000 in
theorem specDiffed_any {n : Nat} {w : World} {ta ka tb kb : Value} {a b : TD} (hta0 : TreeAt w 0 n ta ka a) (htb0 : TreeAt w 0 n tb kb b) :
    Calls Try.prog 23 #[.agg #[ta, ka], .agg #[tb, kb]] w fun e1 w' => DfR n w w' (diffD n a b) e1 := by
  obtain ⟨rfl, _⟩ := hta0.tag
  obtain ⟨_, aA, cA, rfl⟩ := hta0.form
  obtain ⟨rfl, _⟩ := htb0.tag
  obtain ⟨_, aB, cB, rfl⟩ := htb0.form
  have hta : Hid (∀ W, Below w.heap.size w W → TreeAt W 0 n (.string (strT a)) (.slice aA (kidsOf a).length cA) a) := fun W hb => hta0.below hb
  have htb : Hid (∀ W, Below w.heap.size w W → TreeAt W 0 n (.string (strT b)) (.slice aB (kidsOf b).length cB) b) := fun W hb => htb0.below hb
  clear hta0 htb0
  have hB0 : Hid (Below w.heap.size w ((w.alloc (.cells #[.string (strT a), .slice aA (kidsOf a).length cA] 26)).alloc (.cells #[.string (strT b), .slice aB (kidsOf b).length cB] 26))) := ((Below.refl _ _).alloc (Nat.le_refl _) _).alloc (by simp) _
  have bA0 : Hid (Box ((w.alloc (.cells #[.string (strT a), .slice aA (kidsOf a).length cA] 26)).alloc (.cells #[.string (strT b), .slice aB (kidsOf b).length cB] 26)) w.heap.size [.string (strT a), .slice aA (kidsOf a).length cA] 26) := (Box.new w [.string (strT a), .slice aA (kidsOf a).length cA] 26).alloc _
  have bB0 : Hid (Box ((w.alloc (.cells #[.string (strT a), .slice aA (kidsOf a).length cA] 26)).alloc (.cells #[.string (strT b), .slice aB (kidsOf b).length cB] 26)) (w.heap.size + 1) [.string (strT b), .slice aB (kidsOf b).length cB] 26) := by
    have q := Box.new (w.alloc (.cells #[.string (strT a), .slice aA (kidsOf a).length cA] 26)) [.string (strT b), .slice aB (kidsOf b).length cB] 26
    simpa only [World.size_alloc, Hid] using q
  go_enter Try.func23, Try.ntmps23
  have t0 := bA0.out.cell 0 rfl
  have t1 := bA0.out.cell 1 rfl
  go_wp2_with fail
  refine (specOk_any (hta.out _ hB0.out)).mono ?_
  rintro e1 w1 ⟨rfl, hb1⟩
  have hB1 : Hid (Below w.heap.size w w1) := hB0.out.trans (hb1.mono hB0.out.size)
  have bA1 : Hid (Box w1 w.heap.size [.string (strT a), .slice aA (kidsOf a).length cA] 26) := bA0.out.below hb1 bA0.out.lt
  have bB1 : Hid (Box w1 (w.heap.size + 1) [.string (strT b), .slice aB (kidsOf b).length cB] 26) := bB0.out.below hb1 bB0.out.lt
  clear hb1 t0 t1 bA0 bB0 hB0
  rcases (by cases treeB a <;> simp : treeB a = false ∨ treeB a = true) with hf | hf
  · have hno : Hid (diffD n a b = none) := by show diffD n a b = none; unfold diffD; rw [if_neg (by simp [hf])]
    rw [hf]
    clear hf
    go_wp2_with fail
    refine bodyPost_ret (v := .tuple #[.slice none 0 0, .bool false]) (by simp [results, Try.results23, go_sem]) rfl ?_
    exact DfR.no hno.out hB1.out
  have hda : Hid (treeB a = true) := hf
  rw [hf]
  clear hf
  have t0 := bB1.out.cell 0 rfl
  have t1 := bB1.out.cell 1 rfl
  go_wp2_with fail
  refine (specOk_any (htb.out _ hB1.out)).mono ?_
  rintro e1 w2 ⟨rfl, hb2⟩
  have hB2 : Hid (Below w.heap.size w w2) := hB1.out.trans (hb2.mono hB1.out.size)
  have bA2 : Hid (Box w2 w.heap.size [.string (strT a), .slice aA (kidsOf a).length cA] 26) := bA1.out.below hb2 bA1.out.lt
  have bB2 : Hid (Box w2 (w.heap.size + 1) [.string (strT b), .slice aB (kidsOf b).length cB] 26) := bB1.out.below hb2 bB1.out.lt
  clear hb2 t0 t1 bA1 bB1 hB1
  rcases (by cases treeB b <;> simp : treeB b = false ∨ treeB b = true) with hf | hf
  · have hno : Hid (diffD n a b = none) := by show diffD n a b = none; unfold diffD; rw [if_neg (by simp [hf])]
    rw [hf]
    clear hf
    go_wp2_with fail
    refine bodyPost_ret (v := .tuple #[.slice none 0 0, .bool false]) (by simp [results, Try.results23, go_sem]) rfl ?_
    exact DfR.no hno.out hB2.out
  have hyes : Hid (diffD n a b = some (cutsD n a b [] ++ growD n a b [])) := by show diffD n a b = _; unfold diffD; rw [if_pos ⟨hda.out, hf⟩]
  have hRa : Hid (RightT a) := treeB_right hda.out
  have hRb : Hid (RightT b) := treeB_right hf
  have hca : cntTree (n + 1) a ≤ 31 := by have h1 := hRa.out.cnt n; show 1 + cntL (cntTree n) (kidsOf a) ≤ 31; omega
  have hcb : cntTree (n + 1) b ≤ 31 := by have h1 := hRb.out.cnt n; show 1 + cntL (cntTree n) (kidsOf b) ≤ 31; omega
  have hcl : (cutsD n a b []).length ≤ cntTree (n + 1) a := cutsD_len n a b []
  have hta2 : Hid (TreeAt w2 0 n (.string (strT a)) (.slice aA (kidsOf a).length cA) a) := hta.out _ hB2.out
  have htb2 : Hid (TreeAt w2 0 n (.string (strT b)) (.slice aB (kidsOf b).length cB) b) := htb.out _ hB2.out
  rw [hf]
  clear hf
  have a0 := bA2.out.cell 0 rfl
  have a1 := bA2.out.cell 1 rfl
  have b0 := bB2.out.cell 0 rfl
  have b1 := bB2.out.cell 1 rfl
  go_wp2_with fail
  obtain ⟨cs, hcs⟩ : ∃ cs, cutsD n a b [] = cs := ⟨_, rfl⟩
  have hyes2 : Hid (diffD n a b = some (cs ++ growD n a b [])) := by have h := hyes.out; rw [hcs] at h; exact h
  have hcsh : Hid (cutsD n a b [] = cs) := hcs
  have hcl2 : cs.length ≤ 31 := by rw [← hcs]; omega
  clear hcs hcl
  go_region_held3 (fun w' => w'.cell? ⟨w.heap.size, 0, none⟩ = some (.string (strT a)) ∧ w'.cell? ⟨w.heap.size, 1, none⟩ = some (.slice aA (kidsOf a).length cA) ∧ w'.cell? ⟨w.heap.size + 1, 0, none⟩ = some (.string (strT b)) ∧ w'.cell? ⟨w.heap.size + 1, 1, none⟩ = some (.slice aB (kidsOf b).length cB)) (go_keep) (first | (go_at_call 47; refine (DsS_all (w0 := w2) (lo := 0) (base := w2.heap.size) (m := n) n _ w2 _ _ _ _ _ _ a b [] [] [] [] [] hta2.out htb2.out hRa.out hRb.out (by exact Below.drew (Below.refl _ _)) (Nat.le_refl _) (Nat.le_refl _) (Nat.le_refl _) GrowOwn.nil (by exact Below.drew (Below.refl _ _)) (seqOwn_none _) (by simp) (by simp; omega) (by simp; omega)).mono ?_; rw [List.nil_append, hcsh.out]; rintro e1 w5 ⟨v5, bs5, cs5, rfl, hg5, hgr5, _⟩; obtain ⟨a5, c5, rfl⟩ := hg5.len; have hb5 : Hid (Below w2.heap.size w2 w5) := undrew (below_of_grown hgr5 (Nat.le_refl _) (fun g e => by cases e)); have hg5h : Hid (GrowOwn 29 5 (EditO n) w2.heap.size w5 (.slice a5 cs.length c5) cs bs5 cs5) := hg5; have bA5 : Box w5 w.heap.size [.string (strT a), .slice aA (kidsOf a).length cA] 26 := bA2.out.below hb5.out bA2.out.lt; have bB5 : Box w5 (w.heap.size + 1) [.string (strT b), .slice aB (kidsOf b).length cB] 26 := bB2.out.below hb5.out bB2.out.lt; have q0 := bA5.cell 0 rfl; have q1 := bA5.cell 1 rfl; have q2 := bB5.cell 0 rfl; have q3 := bB5.cell 1 rfl; clear hg5 hgr5) | (go_at_call 46; refine (RsS_all (w0 := w2) (lo := 0) (base := w2.heap.size) (m := n) n _ w5 _ _ _ _ _ _ a b [] [] cs bs5 cs5 hta2.out htb2.out hRa.out hRb.out hb5.out (Nat.le_refl _) hb5.out.size (Nat.le_refl _) hg5h.out (Below.refl _ _) (seqOwn_none _) (by simp) (by simp; omega) (by omega)).mono ?_; rintro e1 w6 ⟨v6, bs6, cs6, rfl, hg6, hgr6, _⟩; obtain ⟨a6, c6, rfl⟩ := hg6.len; have hg6 : Hid (GrowOwn 29 5 (EditO n) w2.heap.size w6 _ (cs ++ growD n a b []) bs6 cs6) := hg6; have hbb6 : Hid (Below w2.heap.size w2 w6) := hb5.out.trans ((below_of_grown hgr6 (hb5.out.size) (fun g e => own_block2 hg5h.out.2.2.2.1 g e))); have hB6 : Hid (Below w.heap.size w w6) := hB2.out.trans (hbb6.out.mono hB2.out.size); have bA6 : Box w6 w.heap.size [.string (strT a), .slice aA (kidsOf a).length cA] 26 := bA2.out.below hbb6.out bA2.out.lt; have bB6 : Box w6 (w.heap.size + 1) [.string (strT b), .slice aB (kidsOf b).length cB] 26 := bB2.out.below hbb6.out bB2.out.lt; have q4 := bA6.cell 0 rfl; have q5 := bA6.cell 1 rfl; have q6 := bB6.cell 0 rfl; have q7 := bB6.cell 1 rfl; clear hgr6))
  go_wp2_with fail
  refine bodyPost_ret (v := .tuple #[.slice a6 (cs ++ growD n a b []).length c6, .bool true]) (by simp [results, Try.results23, go_sem]) rfl ?_
  exact DfR.yes hyes2.out hg6.out hB6.out hB2.out.size
set_option maxRecDepth 100000 in
set_option maxHeartbeats 8000000 in
theorem implDiffed_any {n : Nat} {w : World} {ta ka tb kb : Value} {a b : TD} (hta0 : TreeAt w 0 n ta ka a) (htb0 : TreeAt w 0 n tb kb b) :
    Calls Try.prog 22 #[.agg #[ta, ka], .agg #[tb, kb]] w fun e1 w' => DfR n w w' (diffD n a b) e1 := by
  obtain ⟨rfl, _⟩ := hta0.tag
  obtain ⟨_, aA, cA, rfl⟩ := hta0.form
  obtain ⟨rfl, _⟩ := htb0.tag
  obtain ⟨_, aB, cB, rfl⟩ := htb0.form
  have hta : Hid (∀ W, Below w.heap.size w W → TreeAt W 0 n (.string (strT a)) (.slice aA (kidsOf a).length cA) a) := fun W hb => hta0.below hb
  have htb : Hid (∀ W, Below w.heap.size w W → TreeAt W 0 n (.string (strT b)) (.slice aB (kidsOf b).length cB) b) := fun W hb => htb0.below hb
  clear hta0 htb0
  have hB0 : Hid (Below w.heap.size w ((w.alloc (.cells #[.string (strT a), .slice aA (kidsOf a).length cA] 26)).alloc (.cells #[.string (strT b), .slice aB (kidsOf b).length cB] 26))) := ((Below.refl _ _).alloc (Nat.le_refl _) _).alloc (by simp) _
  have bA0 : Hid (Box ((w.alloc (.cells #[.string (strT a), .slice aA (kidsOf a).length cA] 26)).alloc (.cells #[.string (strT b), .slice aB (kidsOf b).length cB] 26)) w.heap.size [.string (strT a), .slice aA (kidsOf a).length cA] 26) := (Box.new w [.string (strT a), .slice aA (kidsOf a).length cA] 26).alloc _
  have bB0 : Hid (Box ((w.alloc (.cells #[.string (strT a), .slice aA (kidsOf a).length cA] 26)).alloc (.cells #[.string (strT b), .slice aB (kidsOf b).length cB] 26)) (w.heap.size + 1) [.string (strT b), .slice aB (kidsOf b).length cB] 26) := by
    have q := Box.new (w.alloc (.cells #[.string (strT a), .slice aA (kidsOf a).length cA] 26)) [.string (strT b), .slice aB (kidsOf b).length cB] 26
    simpa only [World.size_alloc, Hid] using q
  go_enter Try.func22, Try.ntmps22
  have t0 := bA0.out.cell 0 rfl
  have t1 := bA0.out.cell 1 rfl
  go_wp2_with fail
  refine (implOk_any (hta.out _ hB0.out)).mono ?_
  rintro e1 w1 ⟨rfl, hb1⟩
  have hB1 : Hid (Below w.heap.size w w1) := hB0.out.trans (hb1.mono hB0.out.size)
  have bA1 : Hid (Box w1 w.heap.size [.string (strT a), .slice aA (kidsOf a).length cA] 26) := bA0.out.below hb1 bA0.out.lt
  have bB1 : Hid (Box w1 (w.heap.size + 1) [.string (strT b), .slice aB (kidsOf b).length cB] 26) := bB0.out.below hb1 bB0.out.lt
  clear hb1 t0 t1 bA0 bB0 hB0
  rcases (by cases treeB a <;> simp : treeB a = false ∨ treeB a = true) with hf | hf
  · have hno : Hid (diffD n a b = none) := by show diffD n a b = none; unfold diffD; rw [if_neg (by simp [hf])]
    rw [hf]
    clear hf
    go_wp2_with fail
    refine bodyPost_ret (v := .tuple #[.slice none 0 0, .bool false]) (by simp [results, Try.results22, go_sem]) rfl ?_
    exact DfR.no hno.out hB1.out
  have hda : Hid (treeB a = true) := hf
  rw [hf]
  clear hf
  have t0 := bB1.out.cell 0 rfl
  have t1 := bB1.out.cell 1 rfl
  go_wp2_with fail
  refine (implOk_any (htb.out _ hB1.out)).mono ?_
  rintro e1 w2 ⟨rfl, hb2⟩
  have hB2 : Hid (Below w.heap.size w w2) := hB1.out.trans (hb2.mono hB1.out.size)
  have bA2 : Hid (Box w2 w.heap.size [.string (strT a), .slice aA (kidsOf a).length cA] 26) := bA1.out.below hb2 bA1.out.lt
  have bB2 : Hid (Box w2 (w.heap.size + 1) [.string (strT b), .slice aB (kidsOf b).length cB] 26) := bB1.out.below hb2 bB1.out.lt
  clear hb2 t0 t1 bA1 bB1 hB1
  rcases (by cases treeB b <;> simp : treeB b = false ∨ treeB b = true) with hf | hf
  · have hno : Hid (diffD n a b = none) := by show diffD n a b = none; unfold diffD; rw [if_neg (by simp [hf])]
    rw [hf]
    clear hf
    go_wp2_with fail
    refine bodyPost_ret (v := .tuple #[.slice none 0 0, .bool false]) (by simp [results, Try.results22, go_sem]) rfl ?_
    exact DfR.no hno.out hB2.out
  have hyes : Hid (diffD n a b = some (cutsD n a b [] ++ growD n a b [])) := by show diffD n a b = _; unfold diffD; rw [if_pos ⟨hda.out, hf⟩]
  have hRa : Hid (RightT a) := treeB_right hda.out
  have hRb : Hid (RightT b) := treeB_right hf
  have hca : cntTree (n + 1) a ≤ 31 := by have h1 := hRa.out.cnt n; show 1 + cntL (cntTree n) (kidsOf a) ≤ 31; omega
  have hcb : cntTree (n + 1) b ≤ 31 := by have h1 := hRb.out.cnt n; show 1 + cntL (cntTree n) (kidsOf b) ≤ 31; omega
  have hcl : (cutsD n a b []).length ≤ cntTree (n + 1) a := cutsD_len n a b []
  have hta2 : Hid (TreeAt w2 0 n (.string (strT a)) (.slice aA (kidsOf a).length cA) a) := hta.out _ hB2.out
  have htb2 : Hid (TreeAt w2 0 n (.string (strT b)) (.slice aB (kidsOf b).length cB) b) := htb.out _ hB2.out
  rw [hf]
  clear hf
  have a0 := bA2.out.cell 0 rfl
  have a1 := bA2.out.cell 1 rfl
  have b0 := bB2.out.cell 0 rfl
  have b1 := bB2.out.cell 1 rfl
  go_wp2_with fail
  obtain ⟨cs, hcs⟩ : ∃ cs, cutsD n a b [] = cs := ⟨_, rfl⟩
  have hyes2 : Hid (diffD n a b = some (cs ++ growD n a b [])) := by have h := hyes.out; rw [hcs] at h; exact h
  refine (cuI_all (w0 := w2) (lo := 0) (base := w2.heap.size) (m := n) n w2 w2 _ _ _ _ _ _ a b [] [] [] [] [] hta2.out htb2.out hRa.out hRb.out (Below.refl _ _) (Nat.le_refl _) (Nat.le_refl _) (Nat.le_refl _) GrowOwn.nil (Below.refl _ _) (seqOwn_none _) (by simp) (by simp; omega) (by simp; omega)).mono ?_
  rw [List.nil_append, hcs]
  rintro e1 w5 ⟨v5, bs5, cs5, rfl, hg5, hgr5, _⟩
  obtain ⟨a5, c5, rfl⟩ := hg5.len
  have hb5 : Hid (Below w2.heap.size w2 w5) := below_of_grown hgr5 (Nat.le_refl _) (fun g e => by cases e)
  have hg5h : Hid (GrowOwn 29 5 (EditO n) w2.heap.size w5 (.slice a5 cs.length c5) cs bs5 cs5) := hg5
  have bA5 := bA2.out.below hb5.out bA2.out.lt
  have bB5 := bB2.out.below hb5.out bB2.out.lt
  clear hg5 hgr5 a0 a1 b0 b1
  have a0 := bA5.cell 0 rfl
  have a1 := bA5.cell 1 rfl
  have b0 := bB5.cell 0 rfl
  have b1 := bB5.cell 1 rfl
  go_wp2_with fail
  refine (grI_all (w0 := w2) (lo := 0) (base := w2.heap.size) (m := n) n w5 w5 _ _ _ _ _ _ a b [] [] cs bs5 cs5 hta2.out htb2.out hRb.out hb5.out (Nat.le_refl _) hb5.out.size (Nat.le_refl _) hg5h.out (Below.refl _ _) (seqOwn_none _) (by simp) (by simp; omega) (by rw [← hcs]; omega)).mono ?_
  rintro e1 w6 ⟨v6, bs6, cs6, rfl, hg6, hgr6, _⟩
  obtain ⟨a6, c6, rfl⟩ := hg6.len
  have hg6 : Hid (GrowOwn 29 5 (EditO n) w2.heap.size w6 _ (cs ++ growD n a b []) bs6 cs6) := hg6
  have hB6 : Hid (Below w.heap.size w w6) := hB2.out.trans ((hb5.out.trans (below_of_grown hgr6 hb5.out.size (fun g e => own_block2 hg5h.out.2.2.2.1 g e))).mono hB2.out.size)
  clear hgr6
  go_wp2_with fail
  refine bodyPost_ret (v := .tuple #[.slice a6 (cs ++ growD n a b []).length c6, .bool true]) (by simp [results, Try.results22, go_sem]) rfl ?_
  exact DfR.yes hyes2.out hg6.out hB6.out hB2.out.size
end Go.Proofs.Ytndffcogddefiaa
