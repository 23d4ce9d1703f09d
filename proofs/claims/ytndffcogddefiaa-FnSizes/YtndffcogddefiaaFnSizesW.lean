/- The walk of FnSizes. -/
import Derived.Test.YtndffcogddefiaaEdDAll
import Derived.Test.YtndffcogddefiaaEdAll
import Derived.Test.YtndffcogddefiaaEdSizes
import Derived.Test.YtndffcogddefiaaEdTop
import Derived.Test.YtndffcogddefiaaSizeOfI
import Derived.Deep.RegionHeld3
import Derived.Deep.DeepCutAuto
namespace Go.Proofs.Ytndffcogddefiaa.fnSizes
open Go.RowKit Go.Deep
theorem big_any {a : Option Addr} {n cap : Nat} (w : World) : Calls Try.prog 8 #[.slice a n cap] w fun e w' => e = .returned (.bool (decide ((1048576 : Int) < (n : Int)))) ∧ w' = w := by
  go_enter Try.func8, Try.ntmps8
  go_wp2
  go_ret
  exact ⟨rfl, rfl⟩
theorem size_any {n : Nat} {w : World} {lo : Nat} {t k : Value} {d : TD} (ht : TreeAt w lo n t k d) : Calls Try.prog 14 #[.agg #[t, k]] w fun e w' => e = .returned (.int .i64 (sizeB d)) ∧ Below w.heap.size w w' :=
  (implSizeOf_any ht).mono fun _ _ h => ⟨by rw [h.1, tree_fuel ht]; rfl, h.2⟩
theorem sizeB_range {x : TD} (h : treeB x = true) : 1 ≤ sizeB x ∧ sizeB x ≤ 30 := by
  unfold treeB at h
  unfold sizeB
  cases e : szD 31 x 30 with
  | none => rw [e] at h; cases h
  | some m => exact szD_range _ _ _ _ e
theorem okB_of {n : Nat} {w : World} {lo : Nat} {t k : Value} {d : TD} (ht : TreeAt w lo n t k d) (h : treeB d = true) : okB (szD n d 30) = true := by rw [tree_fuel ht]; exact h
/-- what Edited tells, in one form -/
theorem EdR.all {w w' : World} {o : Option TD} {e : Ending} (h : EdR w w' o e) : ∃ (a : Option Addr) (c n : Nat), e = .returned (.tuple #[.agg #[.string (strT (resTd o)), .slice a (kidsOf (resTd o)).length c], .bool o.isSome]) ∧ TreeAt w' 0 n (.string (strT (resTd o))) (.slice a (kidsOf (resTd o)).length c) (resTd o) ∧ Below w.heap.size w w' := by
  obtain ⟨cs, fs, n, rfl, ho, _, _, hb⟩ := h
  obtain ⟨k, rfl, hs, _⟩ := ho.opened
  obtain ⟨a, c, rfl⟩ := hs.form
  exact ⟨a, c, n, rfl, treeO_ta ho, hb⟩
theorem AtAns.all {w w' : World} {n : Nat} {r : TD × Bool} {e : Ending} (h : AtAns w w' n r e) : ∃ (a : Option Addr) (c : Nat), e = .returned (.tuple #[.agg #[.string (strT r.1), .slice a (kidsOf r.1).length c], .bool r.2]) ∧ TreeAt w' 0 n (.string (strT r.1)) (.slice a (kidsOf r.1).length c) r.1 := by
  obtain ⟨cs, fs, rfl, ho, _, _⟩ := h
  obtain ⟨k, rfl, hs, _⟩ := ho.opened
  obtain ⟨a, c, rfl⟩ := hs.form
  exact ⟨a, c, rfl, treeO_ta ho⟩
theorem EditAt.seq {n : Nat} {w : World} {lo : Nat} {K kp tg t k : Value} {y : EditD} (h : EditAt n w lo [K, kp, tg, t, k] y) : SeqAt 1 IntAt w lo kp y.vPath := by
  obtain ⟨kp', t', k', e, h1, h2, h3, h4⟩ := h
  simp only [List.cons.injEq] at e
  obtain ⟨_, rfl, _⟩ := e
  exact h2
theorem EditAt.tree {n : Nat} {w : World} {lo : Nat} {K kp tg t k : Value} {y : EditD} (h : EditAt n w lo [K, kp, tg, t, k] y) : TreeAt w lo n t k y.vTree := by
  obtain ⟨kp', t', k', e, h1, h2, h3, h4⟩ := h
  simp only [List.cons.injEq] at e
  obtain ⟨_, _, _, rfl, rfl, _⟩ := e
  exact h4
/-- the sizes, under way: the row of edits, the last tree, the tree of now -/
structure ZS (w : World) (l : List EditD) (al : Option Addr) (cl : Nat) (u : TD) (aU : Option Addr) (cU nU B5 B10 : Nat) (D : TD) (aj : Option Addr) (cj nj : Nat) (wr : World) : Prop where
  hl : Stab (fun b => b = B10) wr (fun W => SeqAt 5 (EditAt 4) W 0 (.slice al l.length cl) l)
  b5 : Box wr B5 [.string (strT u), .slice aU (kidsOf u).length cU] 26
  hu : Stab (fun b => b = B10) wr (fun W => TreeAt W 0 nU (.string (strT u)) (.slice aU (kidsOf u).length cU) u)
  b10 : Box wr B10 [.string (strT D), .slice aj (kidsOf D).length cj] 26
  hD : Stab (fun b => b = B10) wr (fun W => TreeAt W 0 nj (.string (strT D)) (.slice aj (kidsOf D).length cj) D)
  hB : Below w.heap.size w wr
  hn : B5 ≠ B10 ∧ w.heap.size ≤ B10
theorem ZS.below {w : World} {l : List EditD} {al : Option Addr} {cl : Nat} {u : TD} {aU : Option Addr} {cU nU B5 B10 : Nat} {D : TD} {aj : Option Addr} {cj nj : Nat} {wr W : World} (h : ZS w l al cl u aU cU nU B5 B10 D aj cj nj wr) (q : Below wr.heap.size wr W) : ZS w l al cl u aU cU nU B5 B10 D aj cj nj W :=
  ⟨h.hl.below q, h.b5.below q h.b5.lt, h.hu.below q, h.b10.below q h.b10.lt, h.hD.below q, h.hB.trans (q.mono h.hB.size), h.hn⟩
theorem ZS.turn {w : World} {l : List EditD} {al : Option Addr} {cl : Nat} {u : TD} {aU : Option Addr} {cU nU B5 B10 : Nat} {D : TD} {aj : Option Addr} {cj nj : Nat} {wr : World} {D2 : TD} {aM : Option Addr} {cM nM : Nat} (h : ZS w l al cl u aU cU nU B5 B10 D aj cj nj wr) (q : Stab (fun b => b = B10) wr (fun W => TreeAt W 0 nM (.string (strT D2)) (.slice aM (kidsOf D2).length cM) D2)) : ZS w l al cl u aU cU nU B5 B10 D2 aM cM nM (putCells wr B10 0 [.string (strT D2), .slice aM (kidsOf D2).length cM]) :=
  ⟨h.hl.puts rfl _, (putCells_other _ _ _ _ _ h.hn.1).trans h.b5, h.hu.puts rfl _, (h.b10.set (i := 0) _).set (i := 1) _, q.puts rfl _, putCells_below [.string (strT D2), .slice aM (kidsOf D2).length cM] _ _ _ _ _ h.hn.2 h.hB, h.hn⟩
theorem ZS.edit {w : World} {l : List EditD} {al : Option Addr} {cl : Nat} {u : TD} {aU : Option Addr} {cU nU B5 B10 : Nat} {D : TD} {aj : Option Addr} {cj nj : Nat} {wr : World} (h : ZS w l al cl u aU cU nU B5 B10 D aj cj nj wr) {j : Nat} (hj : j < l.length) : ∃ (bl ol : Nat) (ep : Option Addr) (ec : Nat) (ea : Option Addr) (ecc : Nat), al = some ⟨bl, ol, none⟩ ∧ bl < wr.heap.size ∧ EditAt 4 wr 0 [.int .i64 l[j].vKind, .slice ep l[j].vPath.length ec, .string l[j].vTag, .string (strT l[j].vTree), .slice ea (kidsOf l[j].vTree).length ecc] l[j] ∧
    wr.cell? ⟨bl, ol + j * 5, none⟩ = some (.int .i64 l[j].vKind) ∧ wr.cell? ⟨bl, ol + j * 5 + 1, none⟩ = some (.slice ep l[j].vPath.length ec) ∧ wr.cell? ⟨bl, ol + j * 5 + 2, none⟩ = some (.string l[j].vTag) ∧ wr.cell? ⟨bl, ol + j * 5 + 3, none⟩ = some (.string (strT l[j].vTree)) ∧ wr.cell? ⟨bl, ol + j * 5 + 4, none⟩ = some (.slice ea (kidsOf l[j].vTree).length ecc) := by
  obtain ⟨a', c', e, _, hx⟩ := h.hl.here
  injection e with e1 e2 e3
  subst e1
  obtain ⟨bl, ol, rfl, _, hbl, hc⟩ := hx (by omega)
  obtain ⟨cs, _, lie, hE⟩ := hc j hj
  obtain ⟨ep, ec, ea, ecc, rfl, _, _, _⟩ := hE.form
  have l0 := lie 0 (by simp)
  have l1 := lie 1 (by simp)
  have l2 := lie 2 (by simp)
  have l3 := lie 3 (by simp)
  have l4 := lie 4 (by simp)
  simp only [List.getElem?_cons_zero, List.getElem?_cons_succ, Nat.add_zero] at l0 l1 l2 l3 l4
  exact ⟨bl, ol, ep, ec, ea, ecc, rfl, hbl, hE, l0, l1, l2, l3, l4⟩
theorem row_stab {S : Nat → Prop} {u : World} {v : Value} {l : List EditD} (h : SeqAt 5 (EditAt 4) u 0 v l) (hS : ∀ b, b < u.heap.size → ¬ S b) : Stab S u (fun W => SeqAt 5 (EditAt 4) W 0 v l) := fun _ h1 h2 => SeqAt.keep EditAt.stays h ⟨h1, Nat.zero_le _, fun b _ q => h2 b q (hS b q)⟩
theorem allD_some {d u : TD} {l : List EditD} (h : allD d l = some u) : treeB d = true ∧ foldE l d = some u := by
  unfold allD at h
  split at h
  · next hh => exact ⟨hh.2, h⟩
  · cases h
theorem fold_step {l : List EditD} {j : Nat} {D u : TD} (hj : j < l.length) (h : foldE (l.drop j) D = some u) : ∃ D2, editedD D l[j] = some D2 ∧ foldE (l.drop (j + 1)) D2 = some u := by
  rw [foldE_step hj] at h
  cases q : editedD D l[j] with
  | none => rw [q] at h; cases h
  | some y => rw [q] at h; exact ⟨y, rfl, h⟩
set_option maxRecDepth 100000 in
set_option maxHeartbeats 16000000 in
theorem walk {a : Option Addr} {n cap : Nat} (w : World) (hlen : n ≤ maxLen) (hcode : n ≤ 1048576 → CodeAt w a n) :
    Calls Try.prog 7 #[.slice a n cap] w fun e w' => e = .returned (.bool true) ∧ Below w.heap.size w w' := by
  unfold maxLen at hlen
  by_cases hbig : (1048576 : Int) < (n : Int)
  · clear hcode
    go_enter Try.func7, Try.ntmps7
    go_wp2_with (go_at_call 8; refine (big_any _).mono ?_; rintro e w' ⟨rfl, rfl⟩; rw [decide_eq_true hbig])
    go_ret
    exact ⟨rfl, Below.refl _ _⟩
  have hc' : Hid (CodeAt w a n) := hcode (by omega)
  have hbe : Hid (decide ((1048576 : Int) < (n : Int)) = false) := decide_eq_false hbig
  clear hcode hbig hlen
  go_enter Try.func7, Try.ntmps7
  go_wp2_with (go_at_call 8; refine (big_any _).mono ?_; rintro e w' ⟨rfl, e9⟩; have e10 := e9.symm; clear e9; subst e10; rw [hbe.out])
  refine (drawEditedAll_any hc'.out).mono ?_
  rintro e w2 ⟨⟨t, k, v, d, l, rfl, htq, hlq, hl6, hps⟩, hb2⟩
  obtain ⟨rfl, _⟩ := htq.tag
  obtain ⟨_, aT, cT, rfl⟩ := htq.form
  obtain ⟨al, cl, rfl⟩ := hlq.form
  have hps' : Hid (∀ y ∈ l, y.vPath.length ≤ 33) := hps
  have hl6' : Hid (l.length ≤ 6) := hl6
  have hB0 : Hid (Below w.heap.size w w2) := hb2
  have hal : Below w2.heap.size w2 (w2.alloc (.cells #[.string (strT d), .slice aT (kidsOf d).length cT] 26)) := (Below.refl _ _).alloc (Nat.le_refl _) _
  have tD_0 : Hid (TreeAt (w2.alloc (.cells #[.string (strT d), .slice aT (kidsOf d).length cT] 26)) 0 4 (.string (strT d)) (.slice aT (kidsOf d).length cT) d) := htq.below hal
  have lR_0 : Hid (SeqAt 5 (EditAt 4) (w2.alloc (.cells #[.string (strT d), .slice aT (kidsOf d).length cT] 26)) 0 (.slice al l.length cl) l) := hlq.below EditAt.stays hal
  have b3_0 : Hid (Box (w2.alloc (.cells #[.string (strT d), .slice aT (kidsOf d).length cT] 26)) w2.heap.size [.string (strT d), .slice aT (kidsOf d).length cT] 26) := Box.new w2 _ _
  have hB1 : Hid (Below w.heap.size w (w2.alloc (.cells #[.string (strT d), .slice aT (kidsOf d).length cT] 26))) := hB0.out.trans (hal.mono hB0.out.size)
  clear htq hlq hl6 hps hb2 hB0 hal hc' hbe
  have c0_b3_0 := b3_0.out.cell 0 rfl
  have c0_b3_1 := b3_0.out.cell 1 rfl
  go_wp2_with fail
  obtain ⟨o, ho⟩ : ∃ o, allD d l = o := ⟨_, rfl⟩
  have hoh : Hid (allD d l = o) := ho
  clear ho
  refine (implEditedAll_any tD_0.out lR_0.out).mono ?_
  rw [hoh.out]
  rintro e w3 hR
  obtain ⟨aU, cU, nU, rfl, hTU, hbU⟩ := EdR.all hR
  clear hR
  have hTUh : Hid (TreeAt w3 0 nU (.string (strT (resTd o))) (.slice aU (kidsOf (resTd o)).length cU) (resTd o)) := hTU
  clear hTU
  have tD_1 : Hid (TreeAt w3 0 4 (.string (strT d)) (.slice aT (kidsOf d).length cT) d) := TreeAt.below tD_0.out hbU
  have lR_1 : Hid (SeqAt 5 (EditAt 4) w3 0 (.slice al l.length cl) l) := SeqAt.below EditAt.stays lR_0.out hbU
  have b3_1 : Hid (Box w3 w2.heap.size [.string (strT d), .slice aT (kidsOf d).length cT] 26) := Box.below b3_0.out hbU (Box.lt b3_0.out)
  clear tD_0 lR_0 b3_0
  have hB2 : Hid (Below w.heap.size w w3) := hB1.out.trans (Below.mono hbU (Below.size hB1.out))
  clear hB1
  clear c0_b3_0 c0_b3_1
  have c1_b3_0 := b3_1.out.cell 0 rfl
  have c1_b3_1 := b3_1.out.cell 1 rfl
  have tU_1 : Hid (TreeAt w3 0 nU (.string (strT (resTd o))) (.slice aU (kidsOf (resTd o)).length cU) (resTd o)) := hTUh
  clear hTUh hbU
  have halU : Below w3.heap.size w3 (w3.alloc (.cells #[.string (strT (resTd o)), .slice aU (kidsOf (resTd o)).length cU] 26)) := (Below.refl _ _).alloc (Nat.le_refl _) _
  have tD_2 : Hid (TreeAt (w3.alloc (.cells #[.string (strT (resTd o)), .slice aU (kidsOf (resTd o)).length cU] 26)) 0 4 (.string (strT d)) (.slice aT (kidsOf d).length cT) d) := TreeAt.below tD_1.out halU
  have lR_2 : Hid (SeqAt 5 (EditAt 4) (w3.alloc (.cells #[.string (strT (resTd o)), .slice aU (kidsOf (resTd o)).length cU] 26)) 0 (.slice al l.length cl) l) := SeqAt.below EditAt.stays lR_1.out halU
  have b3_2 : Hid (Box (w3.alloc (.cells #[.string (strT (resTd o)), .slice aU (kidsOf (resTd o)).length cU] 26)) w2.heap.size [.string (strT d), .slice aT (kidsOf d).length cT] 26) := Box.below b3_1.out halU (Box.lt b3_1.out)
  have tU_2 : Hid (TreeAt (w3.alloc (.cells #[.string (strT (resTd o)), .slice aU (kidsOf (resTd o)).length cU] 26)) 0 nU (.string (strT (resTd o))) (.slice aU (kidsOf (resTd o)).length cU) (resTd o)) := TreeAt.below tU_1.out halU
  clear tD_1 lR_1 b3_1 tU_1
  have hB3 : Hid (Below w.heap.size w (w3.alloc (.cells #[.string (strT (resTd o)), .slice aU (kidsOf (resTd o)).length cU] 26))) := hB2.out.trans (Below.mono halU (Below.size hB2.out))
  clear hB2
  clear c1_b3_0 c1_b3_1
  have c2_b3_0 := b3_2.out.cell 0 rfl
  have c2_b3_1 := b3_2.out.cell 1 rfl
  have bU_2 : Hid (Box (w3.alloc (.cells #[.string (strT (resTd o)), .slice aU (kidsOf (resTd o)).length cU] 26)) w3.heap.size [.string (strT (resTd o)), .slice aU (kidsOf (resTd o)).length cU] 26) := Box.new w3 _ _
  clear halU
  clear c2_b3_0 c2_b3_1
  have c2_b3_0 := b3_2.out.cell 0 rfl
  have c2_b3_1 := b3_2.out.cell 1 rfl
  have c2_bU_0 := bU_2.out.cell 0 rfl
  have c2_bU_1 := bU_2.out.cell 1 rfl
  go_wp2_with fail
  refine (specEditedAll_any tD_2.out lR_2.out).mono ?_
  rw [hoh.out]
  rintro e w4 hR
  obtain ⟨aV, cV, nV, rfl, hTV, hbV⟩ := EdR.all hR
  clear hR
  have hTVh : Hid (TreeAt w4 0 nV (.string (strT (resTd o))) (.slice aV (kidsOf (resTd o)).length cV) (resTd o)) := hTV
  clear hTV
  have tD_3 : Hid (TreeAt w4 0 4 (.string (strT d)) (.slice aT (kidsOf d).length cT) d) := TreeAt.below tD_2.out hbV
  have lR_3 : Hid (SeqAt 5 (EditAt 4) w4 0 (.slice al l.length cl) l) := SeqAt.below EditAt.stays lR_2.out hbV
  have b3_3 : Hid (Box w4 w2.heap.size [.string (strT d), .slice aT (kidsOf d).length cT] 26) := Box.below b3_2.out hbV (Box.lt b3_2.out)
  have tU_3 : Hid (TreeAt w4 0 nU (.string (strT (resTd o))) (.slice aU (kidsOf (resTd o)).length cU) (resTd o)) := TreeAt.below tU_2.out hbV
  have bU_3 : Hid (Box w4 w3.heap.size [.string (strT (resTd o)), .slice aU (kidsOf (resTd o)).length cU] 26) := Box.below bU_2.out hbV (Box.lt bU_2.out)
  clear tD_2 lR_2 b3_2 tU_2 bU_2
  have hB4 : Hid (Below w.heap.size w w4) := hB3.out.trans (Below.mono hbV (Below.size hB3.out))
  clear hB3
  clear c2_b3_0 c2_b3_1 c2_bU_0 c2_bU_1
  have c3_b3_0 := b3_3.out.cell 0 rfl
  have c3_b3_1 := b3_3.out.cell 1 rfl
  have c3_bU_0 := bU_3.out.cell 0 rfl
  have c3_bU_1 := bU_3.out.cell 1 rfl
  have tV_3 : Hid (TreeAt w4 0 nV (.string (strT (resTd o))) (.slice aV (kidsOf (resTd o)).length cV) (resTd o)) := hTVh
  clear hTVh hbV
  have halV : Below w4.heap.size w4 (w4.alloc (.cells #[.string (strT (resTd o)), .slice aV (kidsOf (resTd o)).length cV] 26)) := (Below.refl _ _).alloc (Nat.le_refl _) _
  have tD_4 : Hid (TreeAt (w4.alloc (.cells #[.string (strT (resTd o)), .slice aV (kidsOf (resTd o)).length cV] 26)) 0 4 (.string (strT d)) (.slice aT (kidsOf d).length cT) d) := TreeAt.below tD_3.out halV
  have lR_4 : Hid (SeqAt 5 (EditAt 4) (w4.alloc (.cells #[.string (strT (resTd o)), .slice aV (kidsOf (resTd o)).length cV] 26)) 0 (.slice al l.length cl) l) := SeqAt.below EditAt.stays lR_3.out halV
  have b3_4 : Hid (Box (w4.alloc (.cells #[.string (strT (resTd o)), .slice aV (kidsOf (resTd o)).length cV] 26)) w2.heap.size [.string (strT d), .slice aT (kidsOf d).length cT] 26) := Box.below b3_3.out halV (Box.lt b3_3.out)
  have tU_4 : Hid (TreeAt (w4.alloc (.cells #[.string (strT (resTd o)), .slice aV (kidsOf (resTd o)).length cV] 26)) 0 nU (.string (strT (resTd o))) (.slice aU (kidsOf (resTd o)).length cU) (resTd o)) := TreeAt.below tU_3.out halV
  have bU_4 : Hid (Box (w4.alloc (.cells #[.string (strT (resTd o)), .slice aV (kidsOf (resTd o)).length cV] 26)) w3.heap.size [.string (strT (resTd o)), .slice aU (kidsOf (resTd o)).length cU] 26) := Box.below bU_3.out halV (Box.lt bU_3.out)
  have tV_4 : Hid (TreeAt (w4.alloc (.cells #[.string (strT (resTd o)), .slice aV (kidsOf (resTd o)).length cV] 26)) 0 nV (.string (strT (resTd o))) (.slice aV (kidsOf (resTd o)).length cV) (resTd o)) := TreeAt.below tV_3.out halV
  clear tD_3 lR_3 b3_3 tU_3 bU_3 tV_3
  have hB5 : Hid (Below w.heap.size w (w4.alloc (.cells #[.string (strT (resTd o)), .slice aV (kidsOf (resTd o)).length cV] 26))) := hB4.out.trans (Below.mono halV (Below.size hB4.out))
  clear hB4
  clear c3_b3_0 c3_b3_1 c3_bU_0 c3_bU_1
  have c4_b3_0 := b3_4.out.cell 0 rfl
  have c4_b3_1 := b3_4.out.cell 1 rfl
  have c4_bU_0 := bU_4.out.cell 0 rfl
  have c4_bU_1 := bU_4.out.cell 1 rfl
  have bV_4 : Hid (Box (w4.alloc (.cells #[.string (strT (resTd o)), .slice aV (kidsOf (resTd o)).length cV] 26)) w4.heap.size [.string (strT (resTd o)), .slice aV (kidsOf (resTd o)).length cV] 26) := Box.new w4 _ _
  clear halV
  clear c4_b3_0 c4_b3_1 c4_bU_0 c4_bU_1
  have c4_b3_0 := b3_4.out.cell 0 rfl
  have c4_b3_1 := b3_4.out.cell 1 rfl
  have c4_bU_0 := bU_4.out.cell 0 rfl
  have c4_bU_1 := bU_4.out.cell 1 rfl
  have c4_bV_0 := bV_4.out.cell 0 rfl
  have c4_bV_1 := bV_4.out.cell 1 rfl
  rcases (by cases o.isSome <;> simp : o.isSome = false ∨ o.isSome = true) with hsb | hsb
  · rw [hsb]
    go_wp2_with fail
    go_ret
    exact ⟨rfl, hB5.out⟩
  rw [hsb]
  obtain ⟨u, hu⟩ := Option.isSome_iff_exists.1 hsb
  have hru : Hid (resTd o = u) := by show _ = _; rw [hu]; rfl
  obtain ⟨htd, hfo⟩ := allD_some (hoh.out.trans hu)
  have htdh : Hid (treeB d = true) := htd
  have hfoh : Hid (foldE (l.drop 0) d = some u) := hfo
  clear hsb hu htd hfo hoh
  go_wp2_with fail
  refine (size_any tD_4.out).mono ?_
  rintro e w5 ⟨rfl, hb5⟩
  have tD_5 : Hid (TreeAt w5 0 4 (.string (strT d)) (.slice aT (kidsOf d).length cT) d) := TreeAt.below tD_4.out hb5
  have lR_5 : Hid (SeqAt 5 (EditAt 4) w5 0 (.slice al l.length cl) l) := SeqAt.below EditAt.stays lR_4.out hb5
  have b3_5 : Hid (Box w5 w2.heap.size [.string (strT d), .slice aT (kidsOf d).length cT] 26) := Box.below b3_4.out hb5 (Box.lt b3_4.out)
  have tU_5 : Hid (TreeAt w5 0 nU (.string (strT (resTd o))) (.slice aU (kidsOf (resTd o)).length cU) (resTd o)) := TreeAt.below tU_4.out hb5
  have bU_5 : Hid (Box w5 w3.heap.size [.string (strT (resTd o)), .slice aU (kidsOf (resTd o)).length cU] 26) := Box.below bU_4.out hb5 (Box.lt bU_4.out)
  have tV_5 : Hid (TreeAt w5 0 nV (.string (strT (resTd o))) (.slice aV (kidsOf (resTd o)).length cV) (resTd o)) := TreeAt.below tV_4.out hb5
  have bV_5 : Hid (Box w5 w4.heap.size [.string (strT (resTd o)), .slice aV (kidsOf (resTd o)).length cV] 26) := Box.below bV_4.out hb5 (Box.lt bV_4.out)
  clear tD_4 lR_4 b3_4 tU_4 bU_4 tV_4 bV_4
  have hB6 : Hid (Below w.heap.size w w5) := hB5.out.trans (Below.mono hb5 (Below.size hB5.out))
  clear hB5
  clear c4_b3_0 c4_b3_1 c4_bU_0 c4_bU_1 c4_bV_0 c4_bV_1
  have c5_b3_0 := b3_5.out.cell 0 rfl
  have c5_b3_1 := b3_5.out.cell 1 rfl
  have c5_bU_0 := bU_5.out.cell 0 rfl
  have c5_bU_1 := bU_5.out.cell 1 rfl
  have c5_bV_0 := bV_5.out.cell 0 rfl
  have c5_bV_1 := bV_5.out.cell 1 rfl
  clear hb5
  have tU2 : Hid (TreeAt w5 0 nU (.string (strT u)) (.slice aU (kidsOf u).length cU) u) := by rw [← hru.out]; exact tU_5.out
  have bU2 : Hid (Box w5 w3.heap.size [.string (strT u), .slice aU (kidsOf u).length cU] 26) := by rw [← hru.out]; exact bU_5.out
  have hq5 : Below w5.heap.size w5 (w5.alloc (.cells #[.string (strT d), .slice aT (kidsOf d).length cT] 26)) := (Below.refl _ _).alloc (Nat.le_refl _) _
  have hZ0 : Hid (ZS w l al cl u aU cU nU w3.heap.size w5.heap.size d aT cT 4 (w5.alloc (.cells #[.string (strT d), .slice aT (kidsOf d).length cT] 26))) :=
    ⟨(row_stab lR_5.out (fun b q1 q2 => by omega)).below hq5, bU2.out.below hq5 bU2.out.lt, (tree_stab tU2.out (fun b _ q1 q2 => by omega)).below hq5, Box.new w5 _ _, (tree_stab tD_5.out (fun b _ q1 q2 => by omega)).below hq5, hB6.out.trans (hq5.mono hB6.out.size), by have := bU2.out.lt; omega, hB6.out.size⟩
  clear hq5 tU2 bU2 hru lR_5 tU_5 bU_5 tV_5 bV_5 hB6
  go_wp2_with fail
  generalize (w5.alloc (.cells #[.string (strT d), .slice aT (kidsOf d).length cT] 26)) = w6 at hZ0 ⊢
  generalize hB10 : w5.heap.size = B10 at hZ0 ⊢
  generalize hB5 : w3.heap.size = B5 at hZ0 ⊢
  clear hB10 hB5 c5_b3_0 c5_b3_1 c5_bU_0 c5_bU_1 c5_bV_0 c5_bV_1 tD_5 b3_5
  go_loopw [9, 11] (fun v i wr => ∃ (j : Nat) (D : TD) (aj : Option Addr) (cj nj : Nat), j ≤ l.length ∧ i = .int .i64 j ∧ v = .int .i64 (sizeB D) ∧ Hid (treeB D = true) ∧ Hid (foldE (l.drop j) D = some u) ∧ Hid (ZS w l al cl u aU cU nU B5 B10 D aj cj nj wr)) (fun _ i _ => l.length - (intOf i).toNat)
  case atStart => exact ⟨0, d, aT, cT, 4, Nat.zero_le _, rfl, rfl, htdh, hfoh, hZ0⟩
  case round =>
    obtain ⟨j, D, aj, cj, nj, hj, rfl, rfl, htD, hfo, hZ⟩ := hrel
    clear hZ0 htdh hfoh
    by_cases hlt : j < l.length
    · skip
      obtain ⟨bl, ol, ep, ec, ea, ecc, rfl, hbl0, hE0, z00, z10, z20, z30, z40⟩ := hZ.out.edit hlt
      obtain ⟨D2, hD20, hfo20⟩ := fold_step hlt hfo.out
      have hfa0 := edited_facts hD20
      have hpE0 : l[j].vPath.length ≤ 1048576 := by have := hps'.out _ (List.getElem_mem hlt); omega
      generalize l[j] = E at hE0 z00 z10 z20 z30 z40 hD20 hfa0 hpE0
      have hbl : Hid (bl < wr.heap.size) := hbl0
      have hE : Hid (EditAt 4 wr 0 [.int .i64 E.vKind, .slice ep E.vPath.length ec, .string E.vTag, .string (strT E.vTree), .slice ea (kidsOf E.vTree).length ecc] E) := hE0
      have z0 : Hid (wr.cell? ⟨bl, ol + j * 5, none⟩ = some (.int .i64 E.vKind)) := z00
      have z1 : Hid (wr.cell? ⟨bl, ol + j * 5 + 1, none⟩ = some (.slice ep E.vPath.length ec)) := z10
      have z2 : Hid (wr.cell? ⟨bl, ol + j * 5 + 2, none⟩ = some (.string E.vTag)) := z20
      have z3 : Hid (wr.cell? ⟨bl, ol + j * 5 + 3, none⟩ = some (.string (strT E.vTree))) := z30
      have z4 : Hid (wr.cell? ⟨bl, ol + j * 5 + 4, none⟩ = some (.slice ea (kidsOf E.vTree).length ecc)) := z40
      have hD2 : Hid (editedD D E = some D2) := hD20
      have hfo2 : Hid (foldE (l.drop (j + 1)) D2 = some u) := hfo20
      have hpE : Hid (E.vPath.length ≤ 1048576) := hpE0
      have htD2 : Hid (treeB D2 = true) := hfa0.2.1
      have hcs : Hid _ := hfa0.2.2
      have hl6n : l.length ≤ 6 := hl6'.out
      have r1 := sizeB_range htD.out
      have r2 := sizeB_range htD2.out
      clear hbl0 hE0 z00 z10 z20 z30 z40 hD20 hfo20 hpE0 hfa0 hfo
      have hltI : (j : Int) < (l.length : Int) := by omega
      have hj0 : (0 : Int) ≤ (j : Int) := by omega
      go_upto_region 13 with fail
      go_cut [12] (fun sX wx => ∃ (gX : Nat) (rX : TD × Bool) (aX : Option Addr) (cX : Nat), sX = .pointer (some ⟨gX, 0, none⟩) ∧ Hid (Below wr.heap.size wr wx) ∧ Hid (Box wx gX [.string (strT rX.1), .slice aX (kidsOf rX.1).length cX] 26) ∧ Hid (TreeAt wx 0 nj (.string (strT rX.1)) (.slice aX (kidsOf rX.1).length cX) rX.1) ∧ Hid (atD (okB (szD nj D 30)) D E.vPath = rX))
      case first =>
        have hkd : Hid (Below wr.heap.size wr wr.drew) := Below.drew (Below.refl _ _)
        refine wp_region_held_drew (S := fun w' => w'.cell? ⟨B10, 0, none⟩ = some (.string (strT D)) ∧ w'.cell? ⟨B10, 1, none⟩ = some (.slice aj (kidsOf D).length cj) ∧ w'.cell? ⟨bl, ol + j * 5 + 1, none⟩ = some (.slice ep E.vPath.length ec)) (by kernel_rfl) ⟨hZ.out.b10.cell 0 rfl, hZ.out.b10.cell 1 rfl, z1.out⟩ (fun hHeld => ?_)
        refine tq (i := 0) (d := 53) ?_
        simp only [sz, ss]
        refine tq (i := 1) (d := 54) ?_
        simp only [sz, ss]
        refine tq (i := 2) (d := 55) ?_
        simp only [sz, ss]
        refine tq (i := 3) (d := 56) ?_
        simp only [sz, ss]
        refine tq (i := 4) (d := 57) ?_
        simp only [sz, ss]
        refine tq (i := 5) (d := 58) ?_
        simp only [sz, ss]
        refine wpAnyH_ready (rs := [6, 10]) (by kernel_rfl) (by simp) ?_
        refine (AllReadyH.cons rfl (fun K hK => ?_) (AllReadyH.cons rfl (fun K hK => ?_) AllReadyH.nil))
        · go_simp
          refine (implAt_any (by exact (hZ.out.below hkd.out).hD.here) (EditAt.seq (EditAt.stays _ _ _ _ _ _ (.of_below hkd.out) hE.out)) hpE.out).mono ?_
          obtain ⟨rX, hrX⟩ : ∃ r, atD (okB (szD nj D 30)) D E.vPath = r := ⟨_, rfl⟩
          rw [hrX]
          rintro e1 u6 ⟨⟨csX, fX, rfl, hoX, _, hloX⟩, hb6⟩
          obtain ⟨kX, rfl, sX, _⟩ := hoX.opened
          obtain ⟨aX, cX, rfl⟩ := sX.form
          have hrXh : Hid (atD (okB (szD nj D 30)) D E.vPath = rX) := hrX
          have hTX : Hid (TreeAt u6 (World.heap wr.drew).size nj (.string (strT rX.1)) (.slice aX (kidsOf rX.1).length cX) rX.1) := TreeL.at nj _ _ _ (TreeO_at (lo := (World.heap wr.drew).size) nj _ _ _ _ hoX hloX)
          have hk1 : Hid (Below wr.heap.size wr u6) := hkd.out.trans (Below.mono hb6 (Below.size hkd.out))
          have lu6 := hb6.size
          clear hoX hloX sX hrX hb6
          refine hK.out _ _ ⟨(hZ.out.below hk1.out).b10.cell 0 rfl, (hZ.out.below hk1.out).b10.cell 1 rfl, (hk1.out.cell (p := ⟨bl, ol + j * 5 + 1, none⟩) hbl.out).trans z1.out⟩ (fun hHeld => ?_)
          clear hK K
          refine tq (i := 7) (d := 52) ?_
          simp only [sz, ss]
          refine tq (i := 8) (d := 60) ?_
          simp only [sz, ss]
          refine tq (i := 9) (d := 61) ?_
          simp only [sz, ss]
          refine wpAnyH_ready (rs := [10]) (by kernel_rfl) (by simp) ?_
          refine AllReadyH.cons rfl (fun K hK => ?_) AllReadyH.nil
          go_simp
          have hk2 : Hid (Below wr.heap.size wr (World.alloc u6 (.cells #[.string ⟨#[]⟩, .slice none 0 0] 26))) := Below.alloc hk1.out (Below.size hk1.out) _
          obtain ⟨EE, hEE⟩ : ∃ EE, u6.heap.size = EE := ⟨_, rfl⟩
          have bX2 : Hid (Box (World.alloc u6 (.cells #[.string ⟨#[]⟩, .slice none 0 0] 26)) EE [.string ⟨#[]⟩, .slice none 0 0] 26) := by rw [← hEE]; exact Box.new u6 _ _
          have lE : wr.heap.size ≤ EE := by rw [← hEE]; have := Below.size hk1.out; exact this
          have lE0 : EE < (World.heap (World.alloc u6 (.cells #[.string ⟨#[]⟩, .slice none 0 0] 26))).size := bX2.out.lt
          have hEEh : Hid (u6.heap.size = EE) := hEE
          clear hEE
          refine hK.out _ _ ⟨(hZ.out.below hk2.out).b10.cell 0 rfl, (hZ.out.below hk2.out).b10.cell 1 rfl, (hk2.out.cell (p := ⟨bl, ol + j * 5 + 1, none⟩) hbl.out).trans z1.out⟩ (fun hHeld => ?_)
          clear hK K
          refine wpAnyH_ready (rs := [11]) (by kernel_rfl) (by simp) ?_
          refine AllReadyH.cons rfl (fun K hK => ?_) AllReadyH.nil
          go_simp
          have hkF : Hid (Below wr.heap.size wr (World.alloc u6 (.cells #[.string (strT rX.1), .slice aX (kidsOf rX.1).length cX] 26))) := Below.alloc hk1.out (Below.size hk1.out) _
          refine hK.out _ _ ⟨(hZ.out.below hkF.out).b10.cell 0 rfl, (hZ.out.below hkF.out).b10.cell 1 rfl, (hkF.out.cell (p := ⟨bl, ol + j * 5 + 1, none⟩) hbl.out).trans z1.out⟩ (fun hHeld => ?_)
          clear hK K
          refine tq (i := 12) (d := 13) ?_
          simp only [sz, ss]
          refine wpAnyH_done (by kernel_rfl) ?_ _
          have eEE := hEEh.out
          have bXF : Hid (Box (World.alloc u6 (.cells #[.string (strT rX.1), .slice aX (kidsOf rX.1).length cX] 26)) EE [.string (strT rX.1), .slice aX (kidsOf rX.1).length cX] 26) := by rw [← eEE]; exact Box.new u6 _ _
          have tXF : Hid (TreeAt (World.alloc u6 (.cells #[.string (strT rX.1), .slice aX (kidsOf rX.1).length cX] 26)) 0 nj (.string (strT rX.1)) (.slice aX (kidsOf rX.1).length cX) rX.1) := TreeAt.keep (by simp) (Nat.zero_le _) (fun b _ q2 => Below.heap_alloc _ _ _ q2) nj _ _ _ hTX.out
          go_wp2_with fail
          go_meet
          exact ⟨EE, rX, aX, cX, by rw [eEE], hkF, bXF, tXF, hrXh⟩
        · go_simp
          have hk1 : Hid (Below wr.heap.size wr (World.alloc wr.drew (.cells #[.string ⟨#[]⟩, .slice none 0 0] 26))) := Below.alloc hkd.out (Below.size hkd.out) _
          obtain ⟨EE, hEE⟩ : ∃ EE, wr.heap.size = EE := ⟨_, rfl⟩
          have bX1 : Hid (Box (World.alloc wr.drew (.cells #[.string ⟨#[]⟩, .slice none 0 0] 26)) EE [.string ⟨#[]⟩, .slice none 0 0] 26) := by rw [← hEE]; exact Box.new wr.drew _ _
          have lE : wr.heap.size ≤ EE := by rw [← hEE]; have := Below.size hkd.out; exact this
          have lE0 : EE < (World.heap (World.alloc wr.drew (.cells #[.string ⟨#[]⟩, .slice none 0 0] 26))).size := bX1.out.lt
          have hEEh : Hid (wr.heap.size = EE) := hEE
          clear hEE
          refine hK.out _ _ ⟨(hZ.out.below hk1.out).b10.cell 0 rfl, (hZ.out.below hk1.out).b10.cell 1 rfl, (hk1.out.cell (p := ⟨bl, ol + j * 5 + 1, none⟩) hbl.out).trans z1.out⟩ (fun hHeld => ?_)
          clear hK K
          refine wpAnyH_ready (rs := [6]) (by kernel_rfl) (by simp) ?_
          refine AllReadyH.cons rfl (fun K hK => ?_) AllReadyH.nil
          go_simp
          refine (implAt_any (by exact (hZ.out.below hk1.out).hD.here) (EditAt.seq (EditAt.stays _ _ _ _ _ _ (.of_below hk1.out) hE.out)) hpE.out).mono ?_
          obtain ⟨rX, hrX⟩ : ∃ r, atD (okB (szD nj D 30)) D E.vPath = r := ⟨_, rfl⟩
          rw [hrX]
          rintro e1 u6 ⟨⟨csX, fX, rfl, hoX, _, hloX⟩, hb6⟩
          obtain ⟨kX, rfl, sX, _⟩ := hoX.opened
          obtain ⟨aX, cX, rfl⟩ := sX.form
          have hrXh : Hid (atD (okB (szD nj D 30)) D E.vPath = rX) := hrX
          have hTX : Hid (TreeAt u6 (World.heap (World.alloc wr.drew (.cells #[.string ⟨#[]⟩, .slice none 0 0] 26))).size nj (.string (strT rX.1)) (.slice aX (kidsOf rX.1).length cX) rX.1) := TreeL.at nj _ _ _ (TreeO_at (lo := (World.heap (World.alloc wr.drew (.cells #[.string ⟨#[]⟩, .slice none 0 0] 26))).size) nj _ _ _ _ hoX hloX)
          have hk2 : Hid (Below wr.heap.size wr u6) := hk1.out.trans (Below.mono hb6 (Below.size hk1.out))
          have bX2 : Hid (Box u6 EE [.string ⟨#[]⟩, .slice none 0 0] 26) := Box.below bX1.out hb6 (Box.lt bX1.out)
          have lu6 := hb6.size
          clear hoX hloX sX hrX hb6
          refine hK.out _ _ ⟨(hZ.out.below hk2.out).b10.cell 0 rfl, (hZ.out.below hk2.out).b10.cell 1 rfl, (hk2.out.cell (p := ⟨bl, ol + j * 5 + 1, none⟩) hbl.out).trans z1.out⟩ (fun hHeld => ?_)
          clear hK K
          refine tq (i := 7) (d := 52) ?_
          simp only [sz, ss]
          refine tq (i := 8) (d := 60) ?_
          simp only [sz, ss]
          refine tq (i := 9) (d := 61) ?_
          simp only [sz, ss]
          refine wpAnyH_ready (rs := [11]) (by kernel_rfl) (by simp) ?_
          refine AllReadyH.cons rfl (fun K hK => ?_) AllReadyH.nil
          have bE9 := bX2.out
          rw [← hEEh.out] at bE9
          have u0_ := bE9.cell 0 rfl
          have u1_ := bE9.cell 1 rfl
          have uf_ := bE9.unfrozen
          go_simp
          have hkF : Hid (Below wr.heap.size wr (putCells u6 wr.heap.size 0 [.string (strT rX.1), .slice aX (kidsOf rX.1).length cX])) := putCells_below [.string (strT rX.1), .slice aX (kidsOf rX.1).length cX] _ _ _ _ _ (by have h_ := hEEh.out; omega) hk2.out
          refine hK.out _ _ ⟨(hZ.out.below hkF.out).b10.cell 0 rfl, (hZ.out.below hkF.out).b10.cell 1 rfl, (hkF.out.cell (p := ⟨bl, ol + j * 5 + 1, none⟩) hbl.out).trans z1.out⟩ (fun hHeld => ?_)
          clear hK K
          refine tq (i := 12) (d := 13) ?_
          simp only [sz, ss]
          refine wpAnyH_done (by kernel_rfl) ?_ _
          have eEE := hEEh.out
          have bXF : Hid (Box (putCells u6 wr.heap.size 0 [.string (strT rX.1), .slice aX (kidsOf rX.1).length cX]) EE [.string (strT rX.1), .slice aX (kidsOf rX.1).length cX] 26) := by rw [eEE]; exact (bX2.out.set (i := 0) _).set (i := 1) _
          have tXF : Hid (TreeAt (putCells u6 wr.heap.size 0 [.string (strT rX.1), .slice aX (kidsOf rX.1).length cX]) 0 nj (.string (strT rX.1)) (.slice aX (kidsOf rX.1).length cX) rX.1) := TreeAt.keep (by rw [putCells_size]; exact Nat.le_refl _) (Nat.zero_le _) (fun b q1 q2 => (putCells_other [.string (strT rX.1), .slice aX (kidsOf rX.1).length cX] _ _ _ _ (by rw [eEE]; omega))) nj _ _ _ hTX.out
          go_wp2_with fail
          go_meet
          exact ⟨EE, rX, aX, cX, by rw [eEE], hkF, bXF, tXF, hrXh⟩
      case rest =>
        obtain ⟨gX, rX, aX, cX, rfl, hk, bX, tX, hrX⟩ := hcut
        rcases hcs.out with ⟨hk0, htr, hz, hok, hen⟩ | ⟨hk0, hok, hz⟩ | ⟨hk0, hz, hok, hen⟩
        · have r3 := sizeB_range htr
          have hkind : Hid (E.vKind = 1) := hk0
          have hw : IntKind.i64.wrap (sizeB D + sizeB E.vTree) = sizeB D2 := by rw [IntKind.wrap_i64]; omega
          clear hcs hk0 htr hz hok hen r1 r2 r3
          have s0 := (hk.out.cell (p := ⟨bl, ol + j * 5, none⟩) hbl.out).trans z0.out
          rw [hkind.out] at s0
          have s1 := (hk.out.cell (p := ⟨bl, ol + j * 5 + 1, none⟩) hbl.out).trans z1.out
          have s2 := (hk.out.cell (p := ⟨bl, ol + j * 5 + 2, none⟩) hbl.out).trans z2.out
          have s3 := (hk.out.cell (p := ⟨bl, ol + j * 5 + 3, none⟩) hbl.out).trans z3.out
          have s4 := (hk.out.cell (p := ⟨bl, ol + j * 5 + 4, none⟩) hbl.out).trans z4.out
          go_wp2_with fail
          refine (size_any (EditAt.tree (EditAt.stays _ _ _ _ _ _ (.of_below hk.out) hE.out))).mono ?_
          rintro e w7 ⟨rfl, hb7⟩
          have hk7 : Hid (Below wr.heap.size wr w7) := hk.out.trans (hb7.mono hk.out.size)
          clear hb7 s0 s1 s2 s3 s4
          have t0 := (hk7.out.cell (p := ⟨bl, ol + j * 5, none⟩) hbl.out).trans z0.out
          rw [hkind.out] at t0
          go_upto_region 18 with fail
          clear t0
          have hkd8 : Hid (Below wr.heap.size wr (World.drew w7)) := hk7.out.trans (Below.mono (Below.drew (Below.refl _ _)) (Below.size hk7.out))
          refine wp_region_held_drew (S := fun w' => w'.cell? ⟨B5, 0, none⟩ = some (.string (strT u))) (by kernel_rfl) ((hZ.out.below hk7.out).b5.cell 0 rfl) (fun hHeld => ?_)
          refine tq (i := 1) (d := 88) ?_
          simp only [sz, ss]
          refine tq (i := 2) (d := 89) ?_
          simp only [sz, ss]
          refine tq (i := 3) (d := 90) ?_
          simp only [sz, ss]
          refine wpAnyH_ready (rs := [0, 4]) (by kernel_rfl) (by simp) ?_
          refine (AllReadyH.cons rfl (fun K hK => ?_) (AllReadyH.cons rfl (fun K hK => ?_) AllReadyH.nil))
          · have c0 := (hZ.out.below hk7.out).b10.cell 0 rfl
            have c1 := (hZ.out.below hk7.out).b10.cell 1 rfl
            go_simp
            refine hK.out _ _ ((hZ.out.below hkd8.out).b5.cell 0 rfl) (fun hHeld => ?_)
            clear hK K
            refine wpAnyH_ready (rs := [4]) (by kernel_rfl) (by simp) ?_
            refine AllReadyH.cons rfl (fun K hK => ?_) AllReadyH.nil
            have f0 := (hk7.out.cell (p := ⟨bl, ol + j * 5, none⟩) hbl.out).trans z0.out
            have f1 := (hk7.out.cell (p := ⟨bl, ol + j * 5 + 1, none⟩) hbl.out).trans z1.out
            have f2 := (hk7.out.cell (p := ⟨bl, ol + j * 5 + 2, none⟩) hbl.out).trans z2.out
            have f3 := (hk7.out.cell (p := ⟨bl, ol + j * 5 + 3, none⟩) hbl.out).trans z3.out
            have f4 := (hk7.out.cell (p := ⟨bl, ol + j * 5 + 4, none⟩) hbl.out).trans z4.out
            go_simp
            refine hK.out _ _ ((hZ.out.below hkd8.out).b5.cell 0 rfl) (fun hHeld => ?_)
            clear hK K
            refine wpAnyH_ready (rs := [5]) (by kernel_rfl) (by simp) ?_
            refine AllReadyH.cons rfl (fun K hK => ?_) AllReadyH.nil
            go_simp
            refine (implEdited_any (by exact (hZ.out.below hkd8.out).hD.here) (EditAt.stays _ _ _ _ _ _ (.of_below hkd8.out) hE.out)).mono ?_
            rw [hD2.out]
            rintro e8 w8 hR
            obtain ⟨aM, cM, nM, rfl, hT8, hb8⟩ := EdR.low hR
            have hk8 : Hid (Below wr.heap.size wr w8) := hkd8.out.trans (Below.mono hb8 (Below.size hkd8.out))
            have hZ8 : Hid (ZS w l (some ⟨bl, ol, none⟩) cl u aU cU nU B5 B10 D aj cj nj w8) := hZ.out.below hk8.out
            have hN8 : Hid (Stab (fun b => b = B10) w8 (fun W => TreeAt W 0 nM (.string (strT D2)) (.slice aM (kidsOf D2).length cM) D2)) := tree_stab hT8 (fun b q1 _ q3 => by have h1 := hZ.out.b10.lt; have h2 := Below.size hkd8.out; omega)
            clear hR hT8 hb8
            refine hK.out _ _ (hZ8.out.b5.cell 0 rfl) (fun hHeld => ?_)
            clear hK K
            refine tq (i := 6) (d := 86) ?_
            simp only [sz, ss]
            refine tq (i := 7) (d := 93) ?_
            simp only [sz, ss]
            refine tq (i := 8) (d := 94) ?_
            simp only [sz, ss]
            refine wpAnyH_ready (rs := [9]) (by kernel_rfl) (by simp) ?_
            refine AllReadyH.cons rfl (fun K hK => ?_) AllReadyH.nil
            have d0 := hZ8.out.b10.cell 0 rfl
            have d1 := hZ8.out.b10.cell 1 rfl
            have df := hZ8.out.b10.unfrozen
            have hZ9 : Hid (ZS w l (some ⟨bl, ol, none⟩) cl u aU cU nU B5 B10 D2 aM cM nM (putCells w8 B10 0 [.string (strT D2), .slice aM (kidsOf D2).length cM])) := hZ8.out.turn hN8.out
            go_simp
            refine hK.out _ _ (hZ9.out.b5.cell 0 rfl) (fun hHeld => ?_)
            clear hK K
            refine wpAnyH_done (by kernel_rfl) ?_ _
            go_wp2_with fail
            go_roundw
            case rel => exact ⟨j + 1, D2, aM, cM, nM, by omega, by go_num, rfl, htD2, hfo2, hZ9⟩
            case measure => simp [intOf]; omega
          · have f0 := (hk7.out.cell (p := ⟨bl, ol + j * 5, none⟩) hbl.out).trans z0.out
            have f1 := (hk7.out.cell (p := ⟨bl, ol + j * 5 + 1, none⟩) hbl.out).trans z1.out
            have f2 := (hk7.out.cell (p := ⟨bl, ol + j * 5 + 2, none⟩) hbl.out).trans z2.out
            have f3 := (hk7.out.cell (p := ⟨bl, ol + j * 5 + 3, none⟩) hbl.out).trans z3.out
            have f4 := (hk7.out.cell (p := ⟨bl, ol + j * 5 + 4, none⟩) hbl.out).trans z4.out
            go_simp
            refine hK.out _ _ ((hZ.out.below hkd8.out).b5.cell 0 rfl) (fun hHeld => ?_)
            clear hK K
            refine wpAnyH_ready (rs := [0]) (by kernel_rfl) (by simp) ?_
            refine AllReadyH.cons rfl (fun K hK => ?_) AllReadyH.nil
            have c0 := (hZ.out.below hk7.out).b10.cell 0 rfl
            have c1 := (hZ.out.below hk7.out).b10.cell 1 rfl
            go_simp
            refine hK.out _ _ ((hZ.out.below hkd8.out).b5.cell 0 rfl) (fun hHeld => ?_)
            clear hK K
            refine wpAnyH_ready (rs := [5]) (by kernel_rfl) (by simp) ?_
            refine AllReadyH.cons rfl (fun K hK => ?_) AllReadyH.nil
            go_simp
            refine (implEdited_any (by exact (hZ.out.below hkd8.out).hD.here) (EditAt.stays _ _ _ _ _ _ (.of_below hkd8.out) hE.out)).mono ?_
            rw [hD2.out]
            rintro e8 w8 hR
            obtain ⟨aM, cM, nM, rfl, hT8, hb8⟩ := EdR.low hR
            have hk8 : Hid (Below wr.heap.size wr w8) := hkd8.out.trans (Below.mono hb8 (Below.size hkd8.out))
            have hZ8 : Hid (ZS w l (some ⟨bl, ol, none⟩) cl u aU cU nU B5 B10 D aj cj nj w8) := hZ.out.below hk8.out
            have hN8 : Hid (Stab (fun b => b = B10) w8 (fun W => TreeAt W 0 nM (.string (strT D2)) (.slice aM (kidsOf D2).length cM) D2)) := tree_stab hT8 (fun b q1 _ q3 => by have h1 := hZ.out.b10.lt; have h2 := Below.size hkd8.out; omega)
            clear hR hT8 hb8
            refine hK.out _ _ (hZ8.out.b5.cell 0 rfl) (fun hHeld => ?_)
            clear hK K
            refine tq (i := 6) (d := 86) ?_
            simp only [sz, ss]
            refine tq (i := 7) (d := 93) ?_
            simp only [sz, ss]
            refine tq (i := 8) (d := 94) ?_
            simp only [sz, ss]
            refine wpAnyH_ready (rs := [9]) (by kernel_rfl) (by simp) ?_
            refine AllReadyH.cons rfl (fun K hK => ?_) AllReadyH.nil
            have d0 := hZ8.out.b10.cell 0 rfl
            have d1 := hZ8.out.b10.cell 1 rfl
            have df := hZ8.out.b10.unfrozen
            have hZ9 : Hid (ZS w l (some ⟨bl, ol, none⟩) cl u aU cU nU B5 B10 D2 aM cM nM (putCells w8 B10 0 [.string (strT D2), .slice aM (kidsOf D2).length cM])) := hZ8.out.turn hN8.out
            go_simp
            refine hK.out _ _ (hZ9.out.b5.cell 0 rfl) (fun hHeld => ?_)
            clear hK K
            refine wpAnyH_done (by kernel_rfl) ?_ _
            go_wp2_with fail
            go_roundw
            case rel => exact ⟨j + 1, D2, aM, cM, nM, by omega, by go_num, rfl, htD2, hfo2, hZ9⟩
            case measure => simp [intOf]; omega
        · have hX1 : Hid (rX.1 = endP D E.vPath) := by show _ = _; rw [← hrX.out, atD_yes (okB_of hZ.out.hD.here htD.out) hok]
          have hkind : Hid (E.vKind = 2) := hk0
          have hw : IntKind.i64.wrap (sizeB D - sizeB (endP D E.vPath)) = sizeB D2 := by rw [IntKind.wrap_i64]; omega
          clear hcs hk0 hz hok r1 r2
          have s0 := (hk.out.cell (p := ⟨bl, ol + j * 5, none⟩) hbl.out).trans z0.out
          rw [hkind.out] at s0
          have s1 := (hk.out.cell (p := ⟨bl, ol + j * 5 + 1, none⟩) hbl.out).trans z1.out
          have s2 := (hk.out.cell (p := ⟨bl, ol + j * 5 + 2, none⟩) hbl.out).trans z2.out
          have s3 := (hk.out.cell (p := ⟨bl, ol + j * 5 + 3, none⟩) hbl.out).trans z3.out
          have s4 := (hk.out.cell (p := ⟨bl, ol + j * 5 + 4, none⟩) hbl.out).trans z4.out
          have x0 := bX.out.cell 0 rfl
          have x1 := bX.out.cell 1 rfl
          go_wp2_with fail
          refine (size_any tX.out).mono ?_
          rw [hX1.out]
          rintro e w7 ⟨rfl, hb7⟩
          have hk7 : Hid (Below wr.heap.size wr w7) := hk.out.trans (hb7.mono hk.out.size)
          clear hb7 s0 s1 s2 s3 s4 x0 x1
          go_upto_region 18 with fail
          have hkd8 : Hid (Below wr.heap.size wr (World.drew w7)) := hk7.out.trans (Below.mono (Below.drew (Below.refl _ _)) (Below.size hk7.out))
          refine wp_region_held_drew (S := fun w' => w'.cell? ⟨B5, 0, none⟩ = some (.string (strT u))) (by kernel_rfl) ((hZ.out.below hk7.out).b5.cell 0 rfl) (fun hHeld => ?_)
          refine tq (i := 1) (d := 88) ?_
          simp only [sz, ss]
          refine tq (i := 2) (d := 89) ?_
          simp only [sz, ss]
          refine tq (i := 3) (d := 90) ?_
          simp only [sz, ss]
          refine wpAnyH_ready (rs := [0, 4]) (by kernel_rfl) (by simp) ?_
          refine (AllReadyH.cons rfl (fun K hK => ?_) (AllReadyH.cons rfl (fun K hK => ?_) AllReadyH.nil))
          · have c0 := (hZ.out.below hk7.out).b10.cell 0 rfl
            have c1 := (hZ.out.below hk7.out).b10.cell 1 rfl
            go_simp
            refine hK.out _ _ ((hZ.out.below hkd8.out).b5.cell 0 rfl) (fun hHeld => ?_)
            clear hK K
            refine wpAnyH_ready (rs := [4]) (by kernel_rfl) (by simp) ?_
            refine AllReadyH.cons rfl (fun K hK => ?_) AllReadyH.nil
            have f0 := (hk7.out.cell (p := ⟨bl, ol + j * 5, none⟩) hbl.out).trans z0.out
            have f1 := (hk7.out.cell (p := ⟨bl, ol + j * 5 + 1, none⟩) hbl.out).trans z1.out
            have f2 := (hk7.out.cell (p := ⟨bl, ol + j * 5 + 2, none⟩) hbl.out).trans z2.out
            have f3 := (hk7.out.cell (p := ⟨bl, ol + j * 5 + 3, none⟩) hbl.out).trans z3.out
            have f4 := (hk7.out.cell (p := ⟨bl, ol + j * 5 + 4, none⟩) hbl.out).trans z4.out
            go_simp
            refine hK.out _ _ ((hZ.out.below hkd8.out).b5.cell 0 rfl) (fun hHeld => ?_)
            clear hK K
            refine wpAnyH_ready (rs := [5]) (by kernel_rfl) (by simp) ?_
            refine AllReadyH.cons rfl (fun K hK => ?_) AllReadyH.nil
            go_simp
            refine (implEdited_any (by exact (hZ.out.below hkd8.out).hD.here) (EditAt.stays _ _ _ _ _ _ (.of_below hkd8.out) hE.out)).mono ?_
            rw [hD2.out]
            rintro e8 w8 hR
            obtain ⟨aM, cM, nM, rfl, hT8, hb8⟩ := EdR.low hR
            have hk8 : Hid (Below wr.heap.size wr w8) := hkd8.out.trans (Below.mono hb8 (Below.size hkd8.out))
            have hZ8 : Hid (ZS w l (some ⟨bl, ol, none⟩) cl u aU cU nU B5 B10 D aj cj nj w8) := hZ.out.below hk8.out
            have hN8 : Hid (Stab (fun b => b = B10) w8 (fun W => TreeAt W 0 nM (.string (strT D2)) (.slice aM (kidsOf D2).length cM) D2)) := tree_stab hT8 (fun b q1 _ q3 => by have h1 := hZ.out.b10.lt; have h2 := Below.size hkd8.out; omega)
            clear hR hT8 hb8
            refine hK.out _ _ (hZ8.out.b5.cell 0 rfl) (fun hHeld => ?_)
            clear hK K
            refine tq (i := 6) (d := 86) ?_
            simp only [sz, ss]
            refine tq (i := 7) (d := 93) ?_
            simp only [sz, ss]
            refine tq (i := 8) (d := 94) ?_
            simp only [sz, ss]
            refine wpAnyH_ready (rs := [9]) (by kernel_rfl) (by simp) ?_
            refine AllReadyH.cons rfl (fun K hK => ?_) AllReadyH.nil
            have d0 := hZ8.out.b10.cell 0 rfl
            have d1 := hZ8.out.b10.cell 1 rfl
            have df := hZ8.out.b10.unfrozen
            have hZ9 : Hid (ZS w l (some ⟨bl, ol, none⟩) cl u aU cU nU B5 B10 D2 aM cM nM (putCells w8 B10 0 [.string (strT D2), .slice aM (kidsOf D2).length cM])) := hZ8.out.turn hN8.out
            go_simp
            refine hK.out _ _ (hZ9.out.b5.cell 0 rfl) (fun hHeld => ?_)
            clear hK K
            refine wpAnyH_done (by kernel_rfl) ?_ _
            go_wp2_with fail
            go_roundw
            case rel => exact ⟨j + 1, D2, aM, cM, nM, by omega, by go_num, rfl, htD2, hfo2, hZ9⟩
            case measure => simp [intOf]; omega
          · have f0 := (hk7.out.cell (p := ⟨bl, ol + j * 5, none⟩) hbl.out).trans z0.out
            have f1 := (hk7.out.cell (p := ⟨bl, ol + j * 5 + 1, none⟩) hbl.out).trans z1.out
            have f2 := (hk7.out.cell (p := ⟨bl, ol + j * 5 + 2, none⟩) hbl.out).trans z2.out
            have f3 := (hk7.out.cell (p := ⟨bl, ol + j * 5 + 3, none⟩) hbl.out).trans z3.out
            have f4 := (hk7.out.cell (p := ⟨bl, ol + j * 5 + 4, none⟩) hbl.out).trans z4.out
            go_simp
            refine hK.out _ _ ((hZ.out.below hkd8.out).b5.cell 0 rfl) (fun hHeld => ?_)
            clear hK K
            refine wpAnyH_ready (rs := [0]) (by kernel_rfl) (by simp) ?_
            refine AllReadyH.cons rfl (fun K hK => ?_) AllReadyH.nil
            have c0 := (hZ.out.below hk7.out).b10.cell 0 rfl
            have c1 := (hZ.out.below hk7.out).b10.cell 1 rfl
            go_simp
            refine hK.out _ _ ((hZ.out.below hkd8.out).b5.cell 0 rfl) (fun hHeld => ?_)
            clear hK K
            refine wpAnyH_ready (rs := [5]) (by kernel_rfl) (by simp) ?_
            refine AllReadyH.cons rfl (fun K hK => ?_) AllReadyH.nil
            go_simp
            refine (implEdited_any (by exact (hZ.out.below hkd8.out).hD.here) (EditAt.stays _ _ _ _ _ _ (.of_below hkd8.out) hE.out)).mono ?_
            rw [hD2.out]
            rintro e8 w8 hR
            obtain ⟨aM, cM, nM, rfl, hT8, hb8⟩ := EdR.low hR
            have hk8 : Hid (Below wr.heap.size wr w8) := hkd8.out.trans (Below.mono hb8 (Below.size hkd8.out))
            have hZ8 : Hid (ZS w l (some ⟨bl, ol, none⟩) cl u aU cU nU B5 B10 D aj cj nj w8) := hZ.out.below hk8.out
            have hN8 : Hid (Stab (fun b => b = B10) w8 (fun W => TreeAt W 0 nM (.string (strT D2)) (.slice aM (kidsOf D2).length cM) D2)) := tree_stab hT8 (fun b q1 _ q3 => by have h1 := hZ.out.b10.lt; have h2 := Below.size hkd8.out; omega)
            clear hR hT8 hb8
            refine hK.out _ _ (hZ8.out.b5.cell 0 rfl) (fun hHeld => ?_)
            clear hK K
            refine tq (i := 6) (d := 86) ?_
            simp only [sz, ss]
            refine tq (i := 7) (d := 93) ?_
            simp only [sz, ss]
            refine tq (i := 8) (d := 94) ?_
            simp only [sz, ss]
            refine wpAnyH_ready (rs := [9]) (by kernel_rfl) (by simp) ?_
            refine AllReadyH.cons rfl (fun K hK => ?_) AllReadyH.nil
            have d0 := hZ8.out.b10.cell 0 rfl
            have d1 := hZ8.out.b10.cell 1 rfl
            have df := hZ8.out.b10.unfrozen
            have hZ9 : Hid (ZS w l (some ⟨bl, ol, none⟩) cl u aU cU nU B5 B10 D2 aM cM nM (putCells w8 B10 0 [.string (strT D2), .slice aM (kidsOf D2).length cM])) := hZ8.out.turn hN8.out
            go_simp
            refine hK.out _ _ (hZ9.out.b5.cell 0 rfl) (fun hHeld => ?_)
            clear hK K
            refine wpAnyH_done (by kernel_rfl) ?_ _
            go_wp2_with fail
            go_roundw
            case rel => exact ⟨j + 1, D2, aM, cM, nM, by omega, by go_num, rfl, htD2, hfo2, hZ9⟩
            case measure => simp [intOf]; omega
        · have hsz : sizeB D = sizeB D2 := by omega
          have hkind : Hid (E.vKind = 3) := hk0
          rw [hsz]
          clear hcs hk0 hz hok hen r1 r2 hsz
          have s0 := (hk.out.cell (p := ⟨bl, ol + j * 5, none⟩) hbl.out).trans z0.out
          rw [hkind.out] at s0
          have s1 := (hk.out.cell (p := ⟨bl, ol + j * 5 + 1, none⟩) hbl.out).trans z1.out
          have s2 := (hk.out.cell (p := ⟨bl, ol + j * 5 + 2, none⟩) hbl.out).trans z2.out
          have s3 := (hk.out.cell (p := ⟨bl, ol + j * 5 + 3, none⟩) hbl.out).trans z3.out
          have s4 := (hk.out.cell (p := ⟨bl, ol + j * 5 + 4, none⟩) hbl.out).trans z4.out
          go_upto_region 18 with fail
          clear s0 s1 s2 s3 s4
          have hkd8 : Hid (Below wr.heap.size wr (World.drew wc)) := hk.out.trans (Below.mono (Below.drew (Below.refl _ _)) (Below.size hk.out))
          refine wp_region_held_drew (S := fun w' => w'.cell? ⟨B5, 0, none⟩ = some (.string (strT u))) (by kernel_rfl) ((hZ.out.below hk.out).b5.cell 0 rfl) (fun hHeld => ?_)
          refine tq (i := 1) (d := 88) ?_
          simp only [sz, ss]
          refine tq (i := 2) (d := 89) ?_
          simp only [sz, ss]
          refine tq (i := 3) (d := 90) ?_
          simp only [sz, ss]
          refine wpAnyH_ready (rs := [0, 4]) (by kernel_rfl) (by simp) ?_
          refine (AllReadyH.cons rfl (fun K hK => ?_) (AllReadyH.cons rfl (fun K hK => ?_) AllReadyH.nil))
          · have c0 := (hZ.out.below hk.out).b10.cell 0 rfl
            have c1 := (hZ.out.below hk.out).b10.cell 1 rfl
            go_simp
            refine hK.out _ _ ((hZ.out.below hkd8.out).b5.cell 0 rfl) (fun hHeld => ?_)
            clear hK K
            refine wpAnyH_ready (rs := [4]) (by kernel_rfl) (by simp) ?_
            refine AllReadyH.cons rfl (fun K hK => ?_) AllReadyH.nil
            have f0 := (hk.out.cell (p := ⟨bl, ol + j * 5, none⟩) hbl.out).trans z0.out
            have f1 := (hk.out.cell (p := ⟨bl, ol + j * 5 + 1, none⟩) hbl.out).trans z1.out
            have f2 := (hk.out.cell (p := ⟨bl, ol + j * 5 + 2, none⟩) hbl.out).trans z2.out
            have f3 := (hk.out.cell (p := ⟨bl, ol + j * 5 + 3, none⟩) hbl.out).trans z3.out
            have f4 := (hk.out.cell (p := ⟨bl, ol + j * 5 + 4, none⟩) hbl.out).trans z4.out
            go_simp
            refine hK.out _ _ ((hZ.out.below hkd8.out).b5.cell 0 rfl) (fun hHeld => ?_)
            clear hK K
            refine wpAnyH_ready (rs := [5]) (by kernel_rfl) (by simp) ?_
            refine AllReadyH.cons rfl (fun K hK => ?_) AllReadyH.nil
            go_simp
            refine (implEdited_any (by exact (hZ.out.below hkd8.out).hD.here) (EditAt.stays _ _ _ _ _ _ (.of_below hkd8.out) hE.out)).mono ?_
            rw [hD2.out]
            rintro e8 w8 hR
            obtain ⟨aM, cM, nM, rfl, hT8, hb8⟩ := EdR.low hR
            have hk8 : Hid (Below wr.heap.size wr w8) := hkd8.out.trans (Below.mono hb8 (Below.size hkd8.out))
            have hZ8 : Hid (ZS w l (some ⟨bl, ol, none⟩) cl u aU cU nU B5 B10 D aj cj nj w8) := hZ.out.below hk8.out
            have hN8 : Hid (Stab (fun b => b = B10) w8 (fun W => TreeAt W 0 nM (.string (strT D2)) (.slice aM (kidsOf D2).length cM) D2)) := tree_stab hT8 (fun b q1 _ q3 => by have h1 := hZ.out.b10.lt; have h2 := Below.size hkd8.out; omega)
            clear hR hT8 hb8
            refine hK.out _ _ (hZ8.out.b5.cell 0 rfl) (fun hHeld => ?_)
            clear hK K
            refine tq (i := 6) (d := 86) ?_
            simp only [sz, ss]
            refine tq (i := 7) (d := 93) ?_
            simp only [sz, ss]
            refine tq (i := 8) (d := 94) ?_
            simp only [sz, ss]
            refine wpAnyH_ready (rs := [9]) (by kernel_rfl) (by simp) ?_
            refine AllReadyH.cons rfl (fun K hK => ?_) AllReadyH.nil
            have d0 := hZ8.out.b10.cell 0 rfl
            have d1 := hZ8.out.b10.cell 1 rfl
            have df := hZ8.out.b10.unfrozen
            have hZ9 : Hid (ZS w l (some ⟨bl, ol, none⟩) cl u aU cU nU B5 B10 D2 aM cM nM (putCells w8 B10 0 [.string (strT D2), .slice aM (kidsOf D2).length cM])) := hZ8.out.turn hN8.out
            go_simp
            refine hK.out _ _ (hZ9.out.b5.cell 0 rfl) (fun hHeld => ?_)
            clear hK K
            refine wpAnyH_done (by kernel_rfl) ?_ _
            go_wp2_with fail
            go_roundw
            case rel => exact ⟨j + 1, D2, aM, cM, nM, by omega, by go_num, rfl, htD2, hfo2, hZ9⟩
            case measure => simp [intOf]; omega
          · have f0 := (hk.out.cell (p := ⟨bl, ol + j * 5, none⟩) hbl.out).trans z0.out
            have f1 := (hk.out.cell (p := ⟨bl, ol + j * 5 + 1, none⟩) hbl.out).trans z1.out
            have f2 := (hk.out.cell (p := ⟨bl, ol + j * 5 + 2, none⟩) hbl.out).trans z2.out
            have f3 := (hk.out.cell (p := ⟨bl, ol + j * 5 + 3, none⟩) hbl.out).trans z3.out
            have f4 := (hk.out.cell (p := ⟨bl, ol + j * 5 + 4, none⟩) hbl.out).trans z4.out
            go_simp
            refine hK.out _ _ ((hZ.out.below hkd8.out).b5.cell 0 rfl) (fun hHeld => ?_)
            clear hK K
            refine wpAnyH_ready (rs := [0]) (by kernel_rfl) (by simp) ?_
            refine AllReadyH.cons rfl (fun K hK => ?_) AllReadyH.nil
            have c0 := (hZ.out.below hk.out).b10.cell 0 rfl
            have c1 := (hZ.out.below hk.out).b10.cell 1 rfl
            go_simp
            refine hK.out _ _ ((hZ.out.below hkd8.out).b5.cell 0 rfl) (fun hHeld => ?_)
            clear hK K
            refine wpAnyH_ready (rs := [5]) (by kernel_rfl) (by simp) ?_
            refine AllReadyH.cons rfl (fun K hK => ?_) AllReadyH.nil
            go_simp
            refine (implEdited_any (by exact (hZ.out.below hkd8.out).hD.here) (EditAt.stays _ _ _ _ _ _ (.of_below hkd8.out) hE.out)).mono ?_
            rw [hD2.out]
            rintro e8 w8 hR
            obtain ⟨aM, cM, nM, rfl, hT8, hb8⟩ := EdR.low hR
            have hk8 : Hid (Below wr.heap.size wr w8) := hkd8.out.trans (Below.mono hb8 (Below.size hkd8.out))
            have hZ8 : Hid (ZS w l (some ⟨bl, ol, none⟩) cl u aU cU nU B5 B10 D aj cj nj w8) := hZ.out.below hk8.out
            have hN8 : Hid (Stab (fun b => b = B10) w8 (fun W => TreeAt W 0 nM (.string (strT D2)) (.slice aM (kidsOf D2).length cM) D2)) := tree_stab hT8 (fun b q1 _ q3 => by have h1 := hZ.out.b10.lt; have h2 := Below.size hkd8.out; omega)
            clear hR hT8 hb8
            refine hK.out _ _ (hZ8.out.b5.cell 0 rfl) (fun hHeld => ?_)
            clear hK K
            refine tq (i := 6) (d := 86) ?_
            simp only [sz, ss]
            refine tq (i := 7) (d := 93) ?_
            simp only [sz, ss]
            refine tq (i := 8) (d := 94) ?_
            simp only [sz, ss]
            refine wpAnyH_ready (rs := [9]) (by kernel_rfl) (by simp) ?_
            refine AllReadyH.cons rfl (fun K hK => ?_) AllReadyH.nil
            have d0 := hZ8.out.b10.cell 0 rfl
            have d1 := hZ8.out.b10.cell 1 rfl
            have df := hZ8.out.b10.unfrozen
            have hZ9 : Hid (ZS w l (some ⟨bl, ol, none⟩) cl u aU cU nU B5 B10 D2 aM cM nM (putCells w8 B10 0 [.string (strT D2), .slice aM (kidsOf D2).length cM])) := hZ8.out.turn hN8.out
            go_simp
            refine hK.out _ _ (hZ9.out.b5.cell 0 rfl) (fun hHeld => ?_)
            clear hK K
            refine wpAnyH_done (by kernel_rfl) ?_ _
            go_wp2_with fail
            go_roundw
            case rel => exact ⟨j + 1, D2, aM, cM, nM, by omega, by go_num, rfl, htD2, hfo2, hZ9⟩
            case measure => simp [intOf]; omega
    · obtain rfl : j = l.length := by omega
      have hDu : D = u := by have := hfo.out; rw [foldE_end] at this; injection this
      subst hDu
      have c0 := hZ.out.b5.cell 0 rfl
      have c1 := hZ.out.b5.cell 1 rfl
      go_wp2_with fail
      refine (size_any hZ.out.hu.here).mono ?_
      rintro e w7 ⟨rfl, hb7⟩
      have hB7 : Hid (Below w.heap.size w w7) := hZ.out.hB.trans (hb7.mono hZ.out.hB.size)
      go_wp2_with fail
      go_ret
      exact ⟨rfl, hB7.out⟩
end Go.Proofs.Ytndffcogddefiaa.fnSizes
