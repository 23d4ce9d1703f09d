/- The walk of FnEditPieces. -/
import Derived.Test.YtndffcogddefiaaEdPCut
import Derived.Test.YtndffcogddefiaaTextWalks
import Derived.Deep.RegionHeld3
import Derived.Deep.DeepCutAuto
namespace Go.Proofs.Ytndffcogddefiaa.fnEditPieces
open Go.RowKit Go.Deep
theorem big_any {a : Option Addr} {n cap : Nat} (w : World) : Calls Try.prog 8 #[.slice a n cap] w fun e w' => e = .returned (.bool (decide ((1048576 : Int) < (n : Int)))) ∧ w' = w := by
  go_enter Try.func8, Try.ntmps8
  go_wp2
  go_ret
  exact ⟨rfl, rfl⟩
theorem sizeB_range {x : TD} (h : treeB x = true) : 1 ≤ sizeB x ∧ sizeB x ≤ 30 := by
  unfold treeB at h
  unfold sizeB
  cases e : szD 31 x 30 with
  | none => rw [e] at h; cases h
  | some m => exact szD_range _ _ _ _ e
theorem okB_of {n : Nat} {w : World} {lo : Nat} {t k : Value} {d : TD} (ht : TreeAt w lo n t k d) (h : treeB d = true) : okB (szD n d 30) = true := by rw [tree_fuel ht]; exact h
/-- what Edited tells, in one form -/
theorem EdR.all {w w' : World} {o : Option TD} {e : Ending} (h : EdR w w' o e) : ∃ (a : Option Addr) (c n : Nat), e = .returned (.tuple #[.agg #[.string (strT (resTd o)), .slice a (kidsOf (resTd o)).length c], .bool o.isSome]) ∧ TreeAt w' 0 n (.string (strT (resTd o))) (.slice a (kidsOf (resTd o)).length c) (resTd o) ∧ Below w.heap.size w w' := by
  obtain ⟨cs, fs, n, rfl, ho, _, _, hb⟩ := h
  obtain ⟨k, rfl, hs, _⟩ := ho.opened
  obtain ⟨a, c, rfl⟩ := hs.form
  exact ⟨a, c, n, rfl, treeO_ta ho, hb⟩
theorem EditAt.seq {n : Nat} {w : World} {lo : Nat} {K kp tg t k : Value} {y : EditD} (h : EditAt n w lo [K, kp, tg, t, k] y) : SeqAt 1 IntAt w lo kp y.vPath := by
  obtain ⟨kp', t', k', e, h1, h2, h3, h4⟩ := h
  simp only [List.cons.injEq] at e
  obtain ⟨_, rfl, _⟩ := e
  exact h2
theorem EditAt.tree {n : Nat} {w : World} {lo : Nat} {K kp tg t k : Value} {y : EditD} (h : EditAt n w lo [K, kp, tg, t, k] y) : TreeAt w lo n t k y.vTree := by
  obtain ⟨kp', t', k', e, h1, h2, h3, h4⟩ := h
  simp only [List.cons.injEq] at e
  obtain ⟨_, _, _, rfl, rfl, _⟩ := e
  exact h4
/-- pieces, under way: the edits, the first tree, the last one, the one made in two pieces, the tree of now, the row that leads back -/
structure PS (w : World) (l : List EditD) (al : Option Addr) (cl : Nat) (d : TD) (aT : Option Addr) (cT : Nat) (u : TD) (aU : Option Addr) (cU nU : Nat) (aB : Option Addr) (cB nB B3 B5 BB B15 : Nat) (D : TD) (aj : Option Addr) (cj nj : Nat) (bk : List EditD) (ak : Option Addr) (ck nk : Nat) (wr : World) : Prop where
  hl : Stab (fun b => b = B15) wr (fun W => SeqAt 5 (EditAt 4) W 0 (.slice al l.length cl) l)
  b3 : Box wr B3 [.string (strT d), .slice aT (kidsOf d).length cT] 26
  ht : Stab (fun b => b = B15) wr (fun W => TreeAt W 0 4 (.string (strT d)) (.slice aT (kidsOf d).length cT) d)
  b5 : Box wr B5 [.string (strT u), .slice aU (kidsOf u).length cU] 26
  hu : Stab (fun b => b = B15) wr (fun W => TreeAt W 0 nU (.string (strT u)) (.slice aU (kidsOf u).length cU) u)
  bB : Box wr BB [.string (strT u), .slice aB (kidsOf u).length cB] 26
  hb : Stab (fun b => b = B15) wr (fun W => TreeAt W 0 nB (.string (strT u)) (.slice aB (kidsOf u).length cB) u)
  b15 : Box wr B15 [.string (strT D), .slice aj (kidsOf D).length cj] 26
  hD : Stab (fun b => b = B15) wr (fun W => TreeAt W 0 nj (.string (strT D)) (.slice aj (kidsOf D).length cj) D)
  hk : SeqAt 5 (EditAt nk) wr (B15 + 1) (.slice ak bk.length ck) bk
  hB : Below w.heap.size w wr
  hn : B3 ≠ B15 ∧ B5 ≠ B15 ∧ BB ≠ B15 ∧ w.heap.size ≤ B15
theorem PS.below {w : World} {l : List EditD} {al : Option Addr} {cl : Nat} {d : TD} {aT : Option Addr} {cT : Nat} {u : TD} {aU : Option Addr} {cU nU : Nat} {aB : Option Addr} {cB nB B3 B5 BB B15 : Nat} {D : TD} {aj : Option Addr} {cj nj : Nat} {bk : List EditD} {ak : Option Addr} {ck nk : Nat} {wr W : World} (h : PS w l al cl d aT cT u aU cU nU aB cB nB B3 B5 BB B15 D aj cj nj bk ak ck nk wr) (q : Below wr.heap.size wr W) : PS w l al cl d aT cT u aU cU nU aB cB nB B3 B5 BB B15 D aj cj nj bk ak ck nk W :=
  ⟨h.hl.below q, h.b3.below q h.b3.lt, h.ht.below q, h.b5.below q h.b5.lt, h.hu.below q, h.bB.below q h.bB.lt, h.hb.below q, h.b15.below q h.b15.lt, h.hD.below q, h.hk.below EditAt.stays q, h.hB.trans (q.mono h.hB.size), h.hn⟩
theorem PS.turn {w : World} {l : List EditD} {al : Option Addr} {cl : Nat} {d : TD} {aT : Option Addr} {cT : Nat} {u : TD} {aU : Option Addr} {cU nU : Nat} {aB : Option Addr} {cB nB B3 B5 BB B15 : Nat} {D : TD} {aj : Option Addr} {cj nj : Nat} {bk : List EditD} {ak : Option Addr} {ck nk : Nat} {wr : World} {D2 : TD} {aM : Option Addr} {cM nM : Nat} (h : PS w l al cl d aT cT u aU cU nU aB cB nB B3 B5 BB B15 D aj cj nj bk ak ck nk wr) (q : Stab (fun b => b = B15) wr (fun W => TreeAt W 0 nM (.string (strT D2)) (.slice aM (kidsOf D2).length cM) D2)) : PS w l al cl d aT cT u aU cU nU aB cB nB B3 B5 BB B15 D2 aM cM nM bk ak ck nk (putCells wr B15 0 [.string (strT D2), .slice aM (kidsOf D2).length cM]) :=
  ⟨h.hl.puts rfl _, (putCells_other _ _ _ _ _ h.hn.1).trans h.b3, h.ht.puts rfl _, (putCells_other _ _ _ _ _ h.hn.2.1).trans h.b5, h.hu.puts rfl _, (putCells_other _ _ _ _ _ h.hn.2.2.1).trans h.bB, h.hb.puts rfl _, (h.b15.set (i := 0) _).set (i := 1) _, q.puts rfl _, SeqAt.keep EditAt.stays h.hk ⟨by rw [putCells_size]; exact Nat.le_refl _, Nat.le_refl _, fun b q1 _ => putCells_other _ _ _ _ _ (by omega)⟩, putCells_below [.string (strT D2), .slice aM (kidsOf D2).length cM] _ _ _ _ _ h.hn.2.2.2 h.hB, h.hn⟩
theorem PS.row {w : World} {l : List EditD} {al : Option Addr} {cl : Nat} {d : TD} {aT : Option Addr} {cT : Nat} {u : TD} {aU : Option Addr} {cU nU : Nat} {aB : Option Addr} {cB nB B3 B5 BB B15 : Nat} {D : TD} {aj : Option Addr} {cj nj : Nat} {bk : List EditD} {ak : Option Addr} {ck nk : Nat} {wr : World} {bk2 : List EditD} {ak2 : Option Addr} {ck2 nk2 : Nat} (h : PS w l al cl d aT cT u aU cU nU aB cB nB B3 B5 BB B15 D aj cj nj bk ak ck nk wr) (q : SeqAt 5 (EditAt nk2) wr (B15 + 1) (.slice ak2 bk2.length ck2) bk2) : PS w l al cl d aT cT u aU cU nU aB cB nB B3 B5 BB B15 D aj cj nj bk2 ak2 ck2 nk2 wr :=
  ⟨h.hl, h.b3, h.ht, h.b5, h.hu, h.bB, h.hb, h.b15, h.hD, q, h.hB, h.hn⟩
theorem PS.edit {w : World} {l : List EditD} {al : Option Addr} {cl : Nat} {d : TD} {aT : Option Addr} {cT : Nat} {u : TD} {aU : Option Addr} {cU nU : Nat} {aB : Option Addr} {cB nB B3 B5 BB B15 : Nat} {D : TD} {aj : Option Addr} {cj nj : Nat} {bk : List EditD} {ak : Option Addr} {ck nk : Nat} {wr : World} (h : PS w l al cl d aT cT u aU cU nU aB cB nB B3 B5 BB B15 D aj cj nj bk ak ck nk wr) {j : Nat} (hj : j < l.length) : ∃ (bl ol : Nat) (ep : Option Addr) (ec : Nat) (ea : Option Addr) (ecc : Nat), al = some ⟨bl, ol, none⟩ ∧ bl < wr.heap.size ∧ EditAt 4 wr 0 [.int .i64 l[j].vKind, .slice ep l[j].vPath.length ec, .string l[j].vTag, .string (strT l[j].vTree), .slice ea (kidsOf l[j].vTree).length ecc] l[j] ∧
    wr.cell? ⟨bl, ol + j * 5, none⟩ = some (.int .i64 l[j].vKind) ∧ wr.cell? ⟨bl, ol + j * 5 + 1, none⟩ = some (.slice ep l[j].vPath.length ec) ∧ wr.cell? ⟨bl, ol + j * 5 + 2, none⟩ = some (.string l[j].vTag) ∧ wr.cell? ⟨bl, ol + j * 5 + 3, none⟩ = some (.string (strT l[j].vTree)) ∧ wr.cell? ⟨bl, ol + j * 5 + 4, none⟩ = some (.slice ea (kidsOf l[j].vTree).length ecc) := by
  obtain ⟨a', c', e, _, hx⟩ := h.hl.here
  injection e with e1 e2 e3
  subst e1
  obtain ⟨bl, ol, rfl, _, hbl, hc⟩ := hx (by omega)
  obtain ⟨cs, _, lie, hE⟩ := hc j hj
  obtain ⟨ep, ec, ea, ecc, rfl, _, _, _⟩ := hE.form
  have l0 := lie 0 (by simp)
  have l1 := lie 1 (by simp)
  have l2 := lie 2 (by simp)
  have l3 := lie 3 (by simp)
  have l4 := lie 4 (by simp)
  simp only [List.getElem?_cons_zero, List.getElem?_cons_succ, Nat.add_zero] at l0 l1 l2 l3 l4
  exact ⟨bl, ol, ep, ec, ea, ecc, rfl, hbl, hE, l0, l1, l2, l3, l4⟩
theorem row_stabN {S : Nat → Prop} {u : World} {v : Value} {l : List EditD} {n : Nat} (h : SeqAt 5 (EditAt n) u 0 v l) (hS : ∀ b, b < u.heap.size → ¬ S b) : Stab S u (fun W => SeqAt 5 (EditAt n) W 0 v l) := fun _ h1 h2 => SeqAt.keep EditAt.stays h ⟨h1, Nat.zero_le _, fun b _ q => h2 b q (hS b q)⟩
theorem row_stab {S : Nat → Prop} {u : World} {v : Value} {l : List EditD} (h : SeqAt 5 (EditAt 4) u 0 v l) (hS : ∀ b, b < u.heap.size → ¬ S b) : Stab S u (fun W => SeqAt 5 (EditAt 4) W 0 v l) := fun _ h1 h2 => SeqAt.keep EditAt.stays h ⟨h1, Nat.zero_le _, fun b _ q => h2 b q (hS b q)⟩
theorem allD_some {d u : TD} {l : List EditD} (h : allD d l = some u) : treeB d = true ∧ foldE l d = some u := by
  unfold allD at h
  split at h
  · next hh => exact ⟨hh.2, h⟩
  · cases h
theorem fold_step {l : List EditD} {j : Nat} {D u : TD} (hj : j < l.length) (h : foldE (l.drop j) D = some u) : ∃ D2, editedD D l[j] = some D2 ∧ foldE (l.drop (j + 1)) D2 = some u := by
  rw [foldE_step hj] at h
  cases q : editedD D l[j] with
  | none => rw [q] at h; cases h
  | some y => rw [q] at h; exact ⟨y, rfl, h⟩

/-- what Undone tells, in one form, with a lower bound -/
theorem UnR.low {w w' : World} {x : EditD} {e : Ending} (h : UnR w w' (some x) e) : ∃ (p : Option Addr) (c : Nat) (a : Option Addr) (k n : Nat), e = .returned (.tuple #[.agg #[.int .i64 x.vKind, .slice p x.vPath.length c, .string x.vTag, .string (strT x.vTree), .slice a (kidsOf x.vTree).length k], .bool true]) ∧ EditAt n w' w.heap.size [.int .i64 x.vKind, .slice p x.vPath.length c, .string x.vTag, .string (strT x.vTree), .slice a (kidsOf x.vTree).length k] x ∧ Below w.heap.size w w' := by
  obtain ⟨cs, fs, n, rfl, ho, _, hlo, hb⟩ := h
  have hl := EditO_at (lo := w.heap.size) ho hlo
  obtain ⟨p, c, a, k, rfl, _, _, _⟩ := hl.form
  exact ⟨p, c, a, k, n, rfl, hl.at, hb⟩
theorem EdR.lowS {w w' : World} {u : TD} {e : Ending} (h : EdR w w' (some u) e) : ∃ (a : Option Addr) (c n : Nat), e = .returned (.tuple #[.agg #[.string (strT u), .slice a (kidsOf u).length c], .bool true]) ∧ TreeAt w' w.heap.size n (.string (strT u)) (.slice a (kidsOf u).length c) u ∧ Below w.heap.size w w' := EdR.low h
theorem EdR.oneS {w w' : World} {u : TD} {e : Ending} (h : EdR w w' (some u) e) : ∃ (a : Option Addr) (c n : Nat), e = .returned (.tuple #[.agg #[.string (strT u), .slice a (kidsOf u).length c], .bool true]) ∧ TreeAt w' 0 n (.string (strT u)) (.slice a (kidsOf u).length c) u ∧ Below w.heap.size w w' := EdR.all h
theorem undone_some {d : TD} {e : EditD} (h : (undoneD d e).isSome = true) : ∃ u, editedD d e = some u := by
  unfold undoneD at h
  cases q : editedD d e with
  | none => rw [q] at h; cases h
  | some u => exact ⟨u, rfl⟩
theorem undone_yes {d u : TD} {e : EditD} (h : editedD d e = some u) : undoneD d e = some (backD d e) := by unfold undoneD; rw [h]
theorem back_path (d : TD) (e : EditD) : (backD d e).vPath = e.vPath := by unfold backD; split; rfl; split <;> rfl
set_option maxRecDepth 100000 in
set_option maxHeartbeats 16000000 in
theorem walk {a : Option Addr} {n cap : Nat} (w : World) (hlen : n ≤ maxLen) (hcode : n ≤ 1048576 → CodeAt w a n) :
    Calls Try.prog 6 #[.slice a n cap] w fun e w' => e = .returned (.bool true) ∧ Below w.heap.size w w' := by
  unfold maxLen at hlen
  by_cases hbig : (1048576 : Int) < (n : Int)
  · clear hcode
    go_enter Try.func6, Try.ntmps6
    go_wp2_with (go_at_call 8; refine (big_any _).mono ?_; rintro e w' ⟨rfl, rfl⟩; rw [decide_eq_true hbig])
    go_ret
    exact ⟨rfl, Below.refl _ _⟩
  have hc' : Hid (CodeAt w a n) := hcode (by omega)
  have hbe : Hid (decide ((1048576 : Int) < (n : Int)) = false) := decide_eq_false hbig
  clear hcode hbig hlen
  go_enter Try.func6, Try.ntmps6
  go_wp2_with (go_at_call 8; refine (big_any _).mono ?_; rintro e w' ⟨rfl, e9⟩; have e10 := e9.symm; clear e9; subst e10; rw [hbe.out])
  refine (drawEditedAll_any hc'.out).mono ?_
  rintro e w2 ⟨⟨t, k, v, d, l, rfl, htq, hlq, hl6, hps⟩, hb2⟩
  obtain ⟨rfl, _⟩ := htq.tag
  obtain ⟨_, aT, cT, rfl⟩ := htq.form
  obtain ⟨al, cl, rfl⟩ := hlq.form
  have hps' : Hid (∀ y ∈ l, y.vPath.length ≤ 33) := hps
  have hl6' : Hid (l.length ≤ 6) := hl6
  have hB0 : Hid (Below w.heap.size w w2) := hb2
  have hal : Below w2.heap.size w2 (w2.alloc (.cells #[.string (strT d), .slice aT (kidsOf d).length cT] 26)) := (Below.refl _ _).alloc (Nat.le_refl _) _
  have tD_0 : Hid (TreeAt (w2.alloc (.cells #[.string (strT d), .slice aT (kidsOf d).length cT] 26)) 0 4 (.string (strT d)) (.slice aT (kidsOf d).length cT) d) := htq.below hal
  have lR_0 : Hid (SeqAt 5 (EditAt 4) (w2.alloc (.cells #[.string (strT d), .slice aT (kidsOf d).length cT] 26)) 0 (.slice al l.length cl) l) := hlq.below EditAt.stays hal
  have b3_0 : Hid (Box (w2.alloc (.cells #[.string (strT d), .slice aT (kidsOf d).length cT] 26)) w2.heap.size [.string (strT d), .slice aT (kidsOf d).length cT] 26) := Box.new w2 _ _
  have hB1 : Hid (Below w.heap.size w (w2.alloc (.cells #[.string (strT d), .slice aT (kidsOf d).length cT] 26))) := hB0.out.trans (hal.mono hB0.out.size)
  clear htq hlq hl6 hps hb2 hB0 hal hc' hbe
  have c0_b3_0 := b3_0.out.cell 0 rfl
  have c0_b3_1 := b3_0.out.cell 1 rfl
  go_wp2_with fail
  obtain ⟨o, ho⟩ : ∃ o, allD d l = o := ⟨_, rfl⟩
  have hoh : Hid (allD d l = o) := ho
  clear ho
  refine (implEditedAll_any tD_0.out lR_0.out).mono ?_
  rw [hoh.out]
  rintro e w3 hR
  obtain ⟨aU, cU, nU, rfl, hTU, hbU⟩ := EdR.all hR
  clear hR
  have hTUh : Hid (TreeAt w3 0 nU (.string (strT (resTd o))) (.slice aU (kidsOf (resTd o)).length cU) (resTd o)) := hTU
  clear hTU
  have tD_1 : Hid (TreeAt w3 0 4 (.string (strT d)) (.slice aT (kidsOf d).length cT) d) := TreeAt.below tD_0.out hbU
  have lR_1 : Hid (SeqAt 5 (EditAt 4) w3 0 (.slice al l.length cl) l) := SeqAt.below EditAt.stays lR_0.out hbU
  have b3_1 : Hid (Box w3 w2.heap.size [.string (strT d), .slice aT (kidsOf d).length cT] 26) := Box.below b3_0.out hbU (Box.lt b3_0.out)
  clear tD_0 lR_0 b3_0
  have hB2 : Hid (Below w.heap.size w w3) := hB1.out.trans (Below.mono hbU (Below.size hB1.out))
  clear hB1
  clear c0_b3_0 c0_b3_1
  have c1_b3_0 := b3_1.out.cell 0 rfl
  have c1_b3_1 := b3_1.out.cell 1 rfl
  have tU_1 : Hid (TreeAt w3 0 nU (.string (strT (resTd o))) (.slice aU (kidsOf (resTd o)).length cU) (resTd o)) := hTUh
  clear hTUh hbU
  have halU : Below w3.heap.size w3 (w3.alloc (.cells #[.string (strT (resTd o)), .slice aU (kidsOf (resTd o)).length cU] 26)) := (Below.refl _ _).alloc (Nat.le_refl _) _
  have tD_2 : Hid (TreeAt (w3.alloc (.cells #[.string (strT (resTd o)), .slice aU (kidsOf (resTd o)).length cU] 26)) 0 4 (.string (strT d)) (.slice aT (kidsOf d).length cT) d) := TreeAt.below tD_1.out halU
  have lR_2 : Hid (SeqAt 5 (EditAt 4) (w3.alloc (.cells #[.string (strT (resTd o)), .slice aU (kidsOf (resTd o)).length cU] 26)) 0 (.slice al l.length cl) l) := SeqAt.below EditAt.stays lR_1.out halU
  have b3_2 : Hid (Box (w3.alloc (.cells #[.string (strT (resTd o)), .slice aU (kidsOf (resTd o)).length cU] 26)) w2.heap.size [.string (strT d), .slice aT (kidsOf d).length cT] 26) := Box.below b3_1.out halU (Box.lt b3_1.out)
  have tU_2 : Hid (TreeAt (w3.alloc (.cells #[.string (strT (resTd o)), .slice aU (kidsOf (resTd o)).length cU] 26)) 0 nU (.string (strT (resTd o))) (.slice aU (kidsOf (resTd o)).length cU) (resTd o)) := TreeAt.below tU_1.out halU
  clear tD_1 lR_1 b3_1 tU_1
  have hB3 : Hid (Below w.heap.size w (w3.alloc (.cells #[.string (strT (resTd o)), .slice aU (kidsOf (resTd o)).length cU] 26))) := hB2.out.trans (Below.mono halU (Below.size hB2.out))
  clear hB2
  clear c1_b3_0 c1_b3_1
  have c2_b3_0 := b3_2.out.cell 0 rfl
  have c2_b3_1 := b3_2.out.cell 1 rfl
  have bU_2 : Hid (Box (w3.alloc (.cells #[.string (strT (resTd o)), .slice aU (kidsOf (resTd o)).length cU] 26)) w3.heap.size [.string (strT (resTd o)), .slice aU (kidsOf (resTd o)).length cU] 26) := Box.new w3 _ _
  clear halU
  clear c2_b3_0 c2_b3_1
  have c2_b3_0 := b3_2.out.cell 0 rfl
  have c2_b3_1 := b3_2.out.cell 1 rfl
  have c2_bU_0 := bU_2.out.cell 0 rfl
  have c2_bU_1 := bU_2.out.cell 1 rfl
  go_wp2_with fail
  refine (specEditedAll_any tD_2.out lR_2.out).mono ?_
  rw [hoh.out]
  rintro e w4 hR
  obtain ⟨aV, cV, nV, rfl, hTV, hbV⟩ := EdR.all hR
  clear hR
  have hTVh : Hid (TreeAt w4 0 nV (.string (strT (resTd o))) (.slice aV (kidsOf (resTd o)).length cV) (resTd o)) := hTV
  clear hTV
  have tD_3 : Hid (TreeAt w4 0 4 (.string (strT d)) (.slice aT (kidsOf d).length cT) d) := TreeAt.below tD_2.out hbV
  have lR_3 : Hid (SeqAt 5 (EditAt 4) w4 0 (.slice al l.length cl) l) := SeqAt.below EditAt.stays lR_2.out hbV
  have b3_3 : Hid (Box w4 w2.heap.size [.string (strT d), .slice aT (kidsOf d).length cT] 26) := Box.below b3_2.out hbV (Box.lt b3_2.out)
  have tU_3 : Hid (TreeAt w4 0 nU (.string (strT (resTd o))) (.slice aU (kidsOf (resTd o)).length cU) (resTd o)) := TreeAt.below tU_2.out hbV
  have bU_3 : Hid (Box w4 w3.heap.size [.string (strT (resTd o)), .slice aU (kidsOf (resTd o)).length cU] 26) := Box.below bU_2.out hbV (Box.lt bU_2.out)
  clear tD_2 lR_2 b3_2 tU_2 bU_2
  have hB4 : Hid (Below w.heap.size w w4) := hB3.out.trans (Below.mono hbV (Below.size hB3.out))
  clear hB3
  clear c2_b3_0 c2_b3_1 c2_bU_0 c2_bU_1
  have c3_b3_0 := b3_3.out.cell 0 rfl
  have c3_b3_1 := b3_3.out.cell 1 rfl
  have c3_bU_0 := bU_3.out.cell 0 rfl
  have c3_bU_1 := bU_3.out.cell 1 rfl
  have tV_3 : Hid (TreeAt w4 0 nV (.string (strT (resTd o))) (.slice aV (kidsOf (resTd o)).length cV) (resTd o)) := hTVh
  clear hTVh hbV
  have halV : Below w4.heap.size w4 (w4.alloc (.cells #[.string (strT (resTd o)), .slice aV (kidsOf (resTd o)).length cV] 26)) := (Below.refl _ _).alloc (Nat.le_refl _) _
  have tD_4 : Hid (TreeAt (w4.alloc (.cells #[.string (strT (resTd o)), .slice aV (kidsOf (resTd o)).length cV] 26)) 0 4 (.string (strT d)) (.slice aT (kidsOf d).length cT) d) := TreeAt.below tD_3.out halV
  have lR_4 : Hid (SeqAt 5 (EditAt 4) (w4.alloc (.cells #[.string (strT (resTd o)), .slice aV (kidsOf (resTd o)).length cV] 26)) 0 (.slice al l.length cl) l) := SeqAt.below EditAt.stays lR_3.out halV
  have b3_4 : Hid (Box (w4.alloc (.cells #[.string (strT (resTd o)), .slice aV (kidsOf (resTd o)).length cV] 26)) w2.heap.size [.string (strT d), .slice aT (kidsOf d).length cT] 26) := Box.below b3_3.out halV (Box.lt b3_3.out)
  have tU_4 : Hid (TreeAt (w4.alloc (.cells #[.string (strT (resTd o)), .slice aV (kidsOf (resTd o)).length cV] 26)) 0 nU (.string (strT (resTd o))) (.slice aU (kidsOf (resTd o)).length cU) (resTd o)) := TreeAt.below tU_3.out halV
  have bU_4 : Hid (Box (w4.alloc (.cells #[.string (strT (resTd o)), .slice aV (kidsOf (resTd o)).length cV] 26)) w3.heap.size [.string (strT (resTd o)), .slice aU (kidsOf (resTd o)).length cU] 26) := Box.below bU_3.out halV (Box.lt bU_3.out)
  have tV_4 : Hid (TreeAt (w4.alloc (.cells #[.string (strT (resTd o)), .slice aV (kidsOf (resTd o)).length cV] 26)) 0 nV (.string (strT (resTd o))) (.slice aV (kidsOf (resTd o)).length cV) (resTd o)) := TreeAt.below tV_3.out halV
  clear tD_3 lR_3 b3_3 tU_3 bU_3 tV_3
  have hB5 : Hid (Below w.heap.size w (w4.alloc (.cells #[.string (strT (resTd o)), .slice aV (kidsOf (resTd o)).length cV] 26))) := hB4.out.trans (Below.mono halV (Below.size hB4.out))
  clear hB4
  clear c3_b3_0 c3_b3_1 c3_bU_0 c3_bU_1
  have c4_b3_0 := b3_4.out.cell 0 rfl
  have c4_b3_1 := b3_4.out.cell 1 rfl
  have c4_bU_0 := bU_4.out.cell 0 rfl
  have c4_bU_1 := bU_4.out.cell 1 rfl
  have bV_4 : Hid (Box (w4.alloc (.cells #[.string (strT (resTd o)), .slice aV (kidsOf (resTd o)).length cV] 26)) w4.heap.size [.string (strT (resTd o)), .slice aV (kidsOf (resTd o)).length cV] 26) := Box.new w4 _ _
  clear halV
  clear c4_b3_0 c4_b3_1 c4_bU_0 c4_bU_1
  have c4_b3_0 := b3_4.out.cell 0 rfl
  have c4_b3_1 := b3_4.out.cell 1 rfl
  have c4_bU_0 := bU_4.out.cell 0 rfl
  have c4_bU_1 := bU_4.out.cell 1 rfl
  have c4_bV_0 := bV_4.out.cell 0 rfl
  have c4_bV_1 := bV_4.out.cell 1 rfl
  obtain ⟨L, hL1, hL2⟩ : ∃ L, nU ≤ L ∧ nV ≤ L := ⟨nU + nV, by omega, by omega⟩
  rcases (by cases o.isSome <;> simp : o.isSome = false ∨ o.isSome = true) with hsb | hsb
  · rw [hsb]
    go_upto_region 6 with fail
    have hk0 : Hid (Below (World.heap (w4.alloc (.cells #[.string (strT (resTd o)), .slice aV (kidsOf (resTd o)).length cV] 26))).size (w4.alloc (.cells #[.string (strT (resTd o)), .slice aV (kidsOf (resTd o)).length cV] 26)) (World.drew (w4.alloc (.cells #[.string (strT (resTd o)), .slice aV (kidsOf (resTd o)).length cV] 26)))) := Below.drew (Below.refl _ _)
    refine wp_region_held_drew (S := fun w' => w'.cell? ⟨w3.heap.size, 0, none⟩ = some (.string (strT (resTd o))) ∧ w'.cell? ⟨w3.heap.size, 1, none⟩ = some (.slice aU (kidsOf (resTd o)).length cU) ∧ w'.cell? ⟨w4.heap.size, 0, none⟩ = some (.string (strT (resTd o))) ∧ w'.cell? ⟨w4.heap.size, 1, none⟩ = some (.slice aV (kidsOf (resTd o)).length cV)) (by kernel_rfl) ⟨bU_4.out.cell 0 rfl, bU_4.out.cell 1 rfl, bV_4.out.cell 0 rfl, bV_4.out.cell 1 rfl⟩ (fun hHeld => ?_)
    refine tq (i := 0) (d := 40) ?_
    simp only [sz, ss]
    refine tq (i := 1) (d := 41) ?_
    simp only [sz, ss]
    refine take_lit (i := 2) (d := 42) (v := .bool false) rfl rfl (by kernel_rfl) (by kernel_rfl) (by kernel_rfl) (fun _ _ _ h => h) (Or.inl ⟨by rfl, ?_⟩) (by assumption) ?_
    · intro w9 _; go_simp
    simp only [sz, ss]
    refine tq (i := 3) (d := 43) ?_
    simp only [sz, ss]
    refine tq (i := 4) (d := 44) ?_
    simp only [sz, ss]
    refine tq (i := 6) (d := 46) ?_
    simp only [sz, ss]
    refine wpAnyH_ready (rs := [5]) (by kernel_rfl) (by simp) ?_
    refine AllReadyH.cons rfl (fun K hK => ?_) AllReadyH.nil
    go_simp
    refine (implTreeText_any (TreeAt.mono hL1 (by exact TreeAt.below tU_4.out hk0.out))).mono ?_
    rintro e p1 ⟨rfl, hb1⟩
    have hk1 : Hid (Below (World.heap (w4.alloc (.cells #[.string (strT (resTd o)), .slice aV (kidsOf (resTd o)).length cV] 26))).size (w4.alloc (.cells #[.string (strT (resTd o)), .slice aV (kidsOf (resTd o)).length cV] 26)) p1) := hk0.out.trans (Below.mono hb1 (Below.size hk0.out))
    refine hK.out _ _ ⟨cell_on hb1 hHeld.1, cell_on hb1 hHeld.2.1, cell_on hb1 hHeld.2.2.1, cell_on hb1 hHeld.2.2.2⟩ (fun hHeld => ?_)
    clear hK K
    refine wpAnyH_ready (rs := [7]) (by kernel_rfl) (by simp) ?_
    refine AllReadyH.cons rfl (fun K hK => ?_) AllReadyH.nil
    go_simp
    refine (implTreeText_any (TreeAt.mono hL2 (by exact TreeAt.below tV_4.out hk1.out))).mono ?_
    rintro e p2 ⟨rfl, hb1⟩
    have hk2 : Hid (Below (World.heap (w4.alloc (.cells #[.string (strT (resTd o)), .slice aV (kidsOf (resTd o)).length cV] 26))).size (w4.alloc (.cells #[.string (strT (resTd o)), .slice aV (kidsOf (resTd o)).length cV] 26)) p2) := hk1.out.trans (Below.mono hb1 (Below.size hk1.out))
    refine hK.out _ _ ⟨cell_on hb1 hHeld.1, cell_on hb1 hHeld.2.1, cell_on hb1 hHeld.2.2.1, cell_on hb1 hHeld.2.2.2⟩ (fun hHeld => ?_)
    clear hK K
    refine take_lit (i := 8) (d := 48) (v := .bool false) rfl rfl (by kernel_rfl) (by kernel_rfl) (by kernel_rfl) (fun _ _ _ h => h) (Or.inl ⟨by rfl, ?_⟩) (by assumption) ?_
    · intro w9 _; go_simp
    simp only [sz, ss]
    refine tq (i := 9) (d := 49) ?_
    simp only [sz, ss]
    refine tq (i := 10) (d := 50) ?_
    simp only [sz, ss]
    refine tq (i := 11) (d := 51) ?_
    simp only [sz, ss]
    refine tq (i := 12) (d := 52) ?_
    simp only [sz, ss]
    refine tq (i := 13) (d := 53) ?_
    simp only [sz, ss]
    refine wpAnyH_done (by kernel_rfl) ?_ _
    clear hHeld hb1
    have hbo := hk2.out
    clear hk0 hk1 hk2
    have tD_5 : Hid (TreeAt p2 0 4 (.string (strT d)) (.slice aT (kidsOf d).length cT) d) := TreeAt.below tD_4.out hbo
    have lR_5 : Hid (SeqAt 5 (EditAt 4) p2 0 (.slice al l.length cl) l) := SeqAt.below EditAt.stays lR_4.out hbo
    have b3_5 : Hid (Box p2 w2.heap.size [.string (strT d), .slice aT (kidsOf d).length cT] 26) := Box.below b3_4.out hbo (Box.lt b3_4.out)
    have tU_5 : Hid (TreeAt p2 0 nU (.string (strT (resTd o))) (.slice aU (kidsOf (resTd o)).length cU) (resTd o)) := TreeAt.below tU_4.out hbo
    have bU_5 : Hid (Box p2 w3.heap.size [.string (strT (resTd o)), .slice aU (kidsOf (resTd o)).length cU] 26) := Box.below bU_4.out hbo (Box.lt bU_4.out)
    have tV_5 : Hid (TreeAt p2 0 nV (.string (strT (resTd o))) (.slice aV (kidsOf (resTd o)).length cV) (resTd o)) := TreeAt.below tV_4.out hbo
    have bV_5 : Hid (Box p2 w4.heap.size [.string (strT (resTd o)), .slice aV (kidsOf (resTd o)).length cV] 26) := Box.below bV_4.out hbo (Box.lt bV_4.out)
    clear tD_4 lR_4 b3_4 tU_4 bU_4 tV_4 bV_4
    have hB6 : Hid (Below w.heap.size w p2) := hB5.out.trans (Below.mono hbo (Below.size hB5.out))
    clear hB5
    clear c4_b3_0 c4_b3_1 c4_bU_0 c4_bU_1 c4_bV_0 c4_bV_1
    have c5_b3_0 := b3_5.out.cell 0 rfl
    have c5_b3_1 := b3_5.out.cell 1 rfl
    have c5_bU_0 := bU_5.out.cell 0 rfl
    have c5_bU_1 := bU_5.out.cell 1 rfl
    have c5_bV_0 := bV_5.out.cell 0 rfl
    have c5_bV_1 := bV_5.out.cell 1 rfl
    clear hbo
    go_wp2_with fail
    go_ret
    exact ⟨rfl, hB6.out⟩
  rw [hsb]
  go_upto_region 6 with fail
  have hk0 : Hid (Below (World.heap (w4.alloc (.cells #[.string (strT (resTd o)), .slice aV (kidsOf (resTd o)).length cV] 26))).size (w4.alloc (.cells #[.string (strT (resTd o)), .slice aV (kidsOf (resTd o)).length cV] 26)) (World.drew (w4.alloc (.cells #[.string (strT (resTd o)), .slice aV (kidsOf (resTd o)).length cV] 26)))) := Below.drew (Below.refl _ _)
  refine wp_region_held_drew (S := fun w' => w'.cell? ⟨w3.heap.size, 0, none⟩ = some (.string (strT (resTd o))) ∧ w'.cell? ⟨w3.heap.size, 1, none⟩ = some (.slice aU (kidsOf (resTd o)).length cU) ∧ w'.cell? ⟨w4.heap.size, 0, none⟩ = some (.string (strT (resTd o))) ∧ w'.cell? ⟨w4.heap.size, 1, none⟩ = some (.slice aV (kidsOf (resTd o)).length cV)) (by kernel_rfl) ⟨bU_4.out.cell 0 rfl, bU_4.out.cell 1 rfl, bV_4.out.cell 0 rfl, bV_4.out.cell 1 rfl⟩ (fun hHeld => ?_)
  refine tq (i := 0) (d := 40) ?_
  simp only [sz, ss]
  refine tq (i := 1) (d := 41) ?_
  simp only [sz, ss]
  refine take_lit (i := 2) (d := 42) (v := .bool false) rfl rfl (by kernel_rfl) (by kernel_rfl) (by kernel_rfl) (fun _ _ _ h => h) (Or.inl ⟨by rfl, ?_⟩) (by assumption) ?_
  · intro w9 _; go_simp
  simp only [sz, ss]
  refine tq (i := 3) (d := 43) ?_
  simp only [sz, ss]
  refine tq (i := 4) (d := 44) ?_
  simp only [sz, ss]
  refine tq (i := 6) (d := 46) ?_
  simp only [sz, ss]
  refine wpAnyH_ready (rs := [5]) (by kernel_rfl) (by simp) ?_
  refine AllReadyH.cons rfl (fun K hK => ?_) AllReadyH.nil
  go_simp
  refine (implTreeText_any (TreeAt.mono hL1 (by exact TreeAt.below tU_4.out hk0.out))).mono ?_
  rintro e p1 ⟨rfl, hb1⟩
  have hk1 : Hid (Below (World.heap (w4.alloc (.cells #[.string (strT (resTd o)), .slice aV (kidsOf (resTd o)).length cV] 26))).size (w4.alloc (.cells #[.string (strT (resTd o)), .slice aV (kidsOf (resTd o)).length cV] 26)) p1) := hk0.out.trans (Below.mono hb1 (Below.size hk0.out))
  refine hK.out _ _ ⟨cell_on hb1 hHeld.1, cell_on hb1 hHeld.2.1, cell_on hb1 hHeld.2.2.1, cell_on hb1 hHeld.2.2.2⟩ (fun hHeld => ?_)
  clear hK K
  refine wpAnyH_ready (rs := [7]) (by kernel_rfl) (by simp) ?_
  refine AllReadyH.cons rfl (fun K hK => ?_) AllReadyH.nil
  go_simp
  refine (implTreeText_any (TreeAt.mono hL2 (by exact TreeAt.below tV_4.out hk1.out))).mono ?_
  rintro e p2 ⟨rfl, hb1⟩
  have hk2 : Hid (Below (World.heap (w4.alloc (.cells #[.string (strT (resTd o)), .slice aV (kidsOf (resTd o)).length cV] 26))).size (w4.alloc (.cells #[.string (strT (resTd o)), .slice aV (kidsOf (resTd o)).length cV] 26)) p2) := hk1.out.trans (Below.mono hb1 (Below.size hk1.out))
  refine hK.out _ _ ⟨cell_on hb1 hHeld.1, cell_on hb1 hHeld.2.1, cell_on hb1 hHeld.2.2.1, cell_on hb1 hHeld.2.2.2⟩ (fun hHeld => ?_)
  clear hK K
  refine take_lit (i := 8) (d := 48) (v := .bool false) rfl rfl (by kernel_rfl) (by kernel_rfl) (by kernel_rfl) (fun _ _ _ h => h) (Or.inl ⟨by rfl, ?_⟩) (by assumption) ?_
  · intro w9 _; go_simp
  simp only [sz, ss]
  refine tq (i := 9) (d := 49) ?_
  simp only [sz, ss]
  refine tq (i := 10) (d := 50) ?_
  simp only [sz, ss]
  refine tq (i := 11) (d := 51) ?_
  simp only [sz, ss]
  refine tq (i := 12) (d := 52) ?_
  simp only [sz, ss]
  refine tq (i := 13) (d := 53) ?_
  simp only [sz, ss]
  refine wpAnyH_done (by kernel_rfl) ?_ _
  clear hHeld hb1
  have hbo := hk2.out
  clear hk0 hk1 hk2
  have tD_5 : Hid (TreeAt p2 0 4 (.string (strT d)) (.slice aT (kidsOf d).length cT) d) := TreeAt.below tD_4.out hbo
  have lR_5 : Hid (SeqAt 5 (EditAt 4) p2 0 (.slice al l.length cl) l) := SeqAt.below EditAt.stays lR_4.out hbo
  have b3_5 : Hid (Box p2 w2.heap.size [.string (strT d), .slice aT (kidsOf d).length cT] 26) := Box.below b3_4.out hbo (Box.lt b3_4.out)
  have tU_5 : Hid (TreeAt p2 0 nU (.string (strT (resTd o))) (.slice aU (kidsOf (resTd o)).length cU) (resTd o)) := TreeAt.below tU_4.out hbo
  have bU_5 : Hid (Box p2 w3.heap.size [.string (strT (resTd o)), .slice aU (kidsOf (resTd o)).length cU] 26) := Box.below bU_4.out hbo (Box.lt bU_4.out)
  have tV_5 : Hid (TreeAt p2 0 nV (.string (strT (resTd o))) (.slice aV (kidsOf (resTd o)).length cV) (resTd o)) := TreeAt.below tV_4.out hbo
  have bV_5 : Hid (Box p2 w4.heap.size [.string (strT (resTd o)), .slice aV (kidsOf (resTd o)).length cV] 26) := Box.below bV_4.out hbo (Box.lt bV_4.out)
  clear tD_4 lR_4 b3_4 tU_4 bU_4 tV_4 bV_4
  have hB6 : Hid (Below w.heap.size w p2) := hB5.out.trans (Below.mono hbo (Below.size hB5.out))
  clear hB5
  clear c4_b3_0 c4_b3_1 c4_bU_0 c4_bU_1 c4_bV_0 c4_bV_1
  have c5_b3_0 := b3_5.out.cell 0 rfl
  have c5_b3_1 := b3_5.out.cell 1 rfl
  have c5_bU_0 := bU_5.out.cell 0 rfl
  have c5_bU_1 := bU_5.out.cell 1 rfl
  have c5_bV_0 := bV_5.out.cell 0 rfl
  have c5_bV_1 := bV_5.out.cell 1 rfl
  clear hbo
  obtain ⟨u, hu⟩ := Option.isSome_iff_exists.1 hsb
  have hru : resTd o = u := by rw [hu]; rfl
  obtain ⟨htd, hfo⟩ := allD_some (hoh.out.trans hu)
  have htdh : Hid (treeB d = true) := htd
  have hfoh : Hid (foldE l d = some u) := hfo
  have htuh : Hid (treeB u = true) := foldE_right htd hfo
  have hll : l.length ≤ 6 := hl6'.out
  obtain ⟨kk, hkk⟩ : ∃ kk, n % (l.length + 1) = kk := ⟨_, rfl⟩
  have hkl : kk ≤ l.length := by rw [← hkk]; have := Nat.mod_lt n (show 0 < l.length + 1 by omega); omega
  have hw1 : IntKind.i64.wrap ((l.length : Int) + 1) = (l.length : Int) + 1 := by rw [IntKind.wrap_i64]; omega
  have hrem : Int.tmod (n : Int) ((l.length : Int) + 1) = (kk : Int) := by rw [Int.tmod_eq_emod_of_nonneg (by omega), show ((l.length : Int) + 1) = ((l.length + 1 : Nat) : Int) from rfl, ← Int.natCast_emod, hkk]
  have hw2 : IntKind.i64.wrap (kk : Int) = (kk : Int) := by rw [IntKind.wrap_i64]; omega
  have hn0 : ¬ ((l.length : Int) + 1 = 0) := by omega
  subst hru
  clear hsb htd hfo hkk hL1 hL2 tV_5 bV_5 c5_bV_0 c5_bV_1
  go_upto_region 9 with fail
  clear hw1 hrem hw2 hn0
  obtain ⟨A, hA1, hA2⟩ := allD_cut kk (show allD d l = some (resTd o) from hoh.out.trans hu)
  have hA1h : Hid (allD d (l.take kk) = some A) := hA1
  have hA2h : Hid (allD A (l.drop kk) = some (resTd o)) := hA2
  clear hA1 hA2 hu
  have hsl1 := sl_to_ed al l.length cl kk (by obtain ⟨_, _, e9, hm9, _⟩ := lR_5.out; injection e9 with _ _ e9; omega)
  clear c5_b3_0 c5_b3_1 c5_bU_0 c5_bU_1
  go_cut [10, 11] (fun s10 s11 wx => ∃ (gA nA : Nat) (aA : Option Addr) (cA : Nat), s10 = .pointer (some ⟨gA, 0, none⟩) ∧ s11 = .bool true ∧ Hid (Below (World.heap p2).size p2 wx) ∧ Hid (Box wx gA [.string (strT A), .slice aA (kidsOf A).length cA] 26) ∧ Hid (TreeAt wx 0 nA (.string (strT A)) (.slice aA (kidsOf A).length cA) A))
  case first =>
    have hkd : Hid (Below (World.heap p2).size p2 (World.drew p2)) := Below.drew (Below.refl _ _)
    refine wp_region_held_drew (S := fun w' => w'.cell? ⟨w2.heap.size, 0, none⟩ = some (.string (strT d)) ∧ w'.cell? ⟨w2.heap.size, 1, none⟩ = some (.slice aT (kidsOf d).length cT)) (by kernel_rfl) ⟨b3_5.out.cell 0 rfl, b3_5.out.cell 1 rfl⟩ (fun hHeld => ?_)
    refine tq (i := 0) (d := 64) ?_
    simp only [sz, ss]
    refine tq (i := 1) (d := 65) ?_
    simp only [sz, ss]
    refine tq (i := 2) (d := 66) ?_
    simp only [sz, ss]
    refine tq (i := 3) (d := 67) ?_
    simp only [sz, ss]
    refine wpAnyH_ready (rs := [4, 8]) (by kernel_rfl) (by simp) ?_
    refine (AllReadyH.cons rfl (fun K hK => ?_) (AllReadyH.cons rfl (fun K hK => ?_) AllReadyH.nil))
    · go_simp
      refine (implEditedAll_any (by exact TreeAt.below tD_5.out hkd.out) (seq_take (by exact SeqAt.below EditAt.stays lR_5.out hkd.out) hkl)).mono ?_
      rw [hA1h.out]
      rintro e1 u6 hR
      obtain ⟨aA, cA, nA, rfl, hT6, hb6⟩ := EdR.lowS hR
      have hTX : Hid (TreeAt u6 (World.heap (World.drew p2)).size nA (.string (strT A)) (.slice aA (kidsOf A).length cA) A) := hT6
      clear hR hT6
      have hk1 : Hid (Below (World.heap p2).size p2 u6) := hkd.out.trans (Below.mono hb6 (Below.size hkd.out))
      have lu6 := hb6.size
      clear hb6
      refine hK.out _ _ ⟨(b3_5.out.below hk1.out (Box.lt b3_5.out)).cell 0 rfl, (b3_5.out.below hk1.out (Box.lt b3_5.out)).cell 1 rfl⟩ (fun hHeld => ?_)
      clear hK K
      refine tq (i := 5) (d := 63) ?_
      simp only [sz, ss]
      refine tq (i := 6) (d := 69) ?_
      simp only [sz, ss]
      refine tq (i := 7) (d := 70) ?_
      simp only [sz, ss]
      refine wpAnyH_ready (rs := [8]) (by kernel_rfl) (by simp) ?_
      refine AllReadyH.cons rfl (fun K hK => ?_) AllReadyH.nil
      go_simp
      have hk2 : Hid (Below (World.heap p2).size p2 (World.alloc u6 (.cells #[.string ⟨#[]⟩, .slice none 0 0] 26))) := Below.alloc hk1.out (Below.size hk1.out) _
      obtain ⟨EE, hEE⟩ : ∃ EE, u6.heap.size = EE := ⟨_, rfl⟩
      have bX2 : Hid (Box (World.alloc u6 (.cells #[.string ⟨#[]⟩, .slice none 0 0] 26)) EE [.string ⟨#[]⟩, .slice none 0 0] 26) := by rw [← hEE]; exact Box.new u6 _ _
      have lE : (World.heap p2).size ≤ EE := by rw [← hEE]; have := Below.size hk1.out; exact this
      have lE0 : EE < (World.heap (World.alloc u6 (.cells #[.string ⟨#[]⟩, .slice none 0 0] 26))).size := bX2.out.lt
      have hEEh : Hid (u6.heap.size = EE) := hEE
      clear hEE
      refine hK.out _ _ ⟨(b3_5.out.below hk2.out (Box.lt b3_5.out)).cell 0 rfl, (b3_5.out.below hk2.out (Box.lt b3_5.out)).cell 1 rfl⟩ (fun hHeld => ?_)
      clear hK K
      refine wpAnyH_ready (rs := [9]) (by kernel_rfl) (by simp) ?_
      refine AllReadyH.cons rfl (fun K hK => ?_) AllReadyH.nil
      go_simp
      have hkF : Hid (Below (World.heap p2).size p2 (World.alloc u6 (.cells #[.string (strT A), .slice aA (kidsOf A).length cA] 26))) := Below.alloc hk1.out (Below.size hk1.out) _
      refine hK.out _ _ ⟨(b3_5.out.below hkF.out (Box.lt b3_5.out)).cell 0 rfl, (b3_5.out.below hkF.out (Box.lt b3_5.out)).cell 1 rfl⟩ (fun hHeld => ?_)
      clear hK K
      refine tq (i := 10) (d := 11) ?_
      simp only [sz, ss]
      refine wpAnyH_done (by kernel_rfl) ?_ _
      have eEE := hEEh.out
      have bXF : Hid (Box (World.alloc u6 (.cells #[.string (strT A), .slice aA (kidsOf A).length cA] 26)) EE [.string (strT A), .slice aA (kidsOf A).length cA] 26) := by rw [← eEE]; exact Box.new u6 _ _
      have tXF : Hid (TreeAt (World.alloc u6 (.cells #[.string (strT A), .slice aA (kidsOf A).length cA] 26)) 0 nA (.string (strT A)) (.slice aA (kidsOf A).length cA) A) := TreeAt.keep (by simp) (Nat.zero_le _) (fun b _ q2 => Below.heap_alloc _ _ _ q2) nA _ _ _ hTX.out
      go_wp2_with fail
      go_meet
      exact ⟨EE, nA, aA, cA, by rw [eEE], rfl, hkF, bXF, tXF⟩
    · go_simp
      have hk1 : Hid (Below (World.heap p2).size p2 (World.alloc (World.drew p2) (.cells #[.string ⟨#[]⟩, .slice none 0 0] 26))) := Below.alloc hkd.out (Below.size hkd.out) _
      obtain ⟨EE, hEE⟩ : ∃ EE, (World.heap p2).size = EE := ⟨_, rfl⟩
      have bX1 : Hid (Box (World.alloc (World.drew p2) (.cells #[.string ⟨#[]⟩, .slice none 0 0] 26)) EE [.string ⟨#[]⟩, .slice none 0 0] 26) := by rw [← hEE]; exact Box.new (World.drew p2) _ _
      have lE : (World.heap p2).size ≤ EE := by rw [← hEE]; have := Below.size hkd.out; exact this
      have lE0 : EE < (World.heap (World.alloc (World.drew p2) (.cells #[.string ⟨#[]⟩, .slice none 0 0] 26))).size := bX1.out.lt
      have hEEh : Hid ((World.heap p2).size = EE) := hEE
      clear hEE
      refine hK.out _ _ ⟨(b3_5.out.below hk1.out (Box.lt b3_5.out)).cell 0 rfl, (b3_5.out.below hk1.out (Box.lt b3_5.out)).cell 1 rfl⟩ (fun hHeld => ?_)
      clear hK K
      refine wpAnyH_ready (rs := [4]) (by kernel_rfl) (by simp) ?_
      refine AllReadyH.cons rfl (fun K hK => ?_) AllReadyH.nil
      go_simp
      refine (implEditedAll_any (by exact TreeAt.below tD_5.out hk1.out) (seq_take (by exact SeqAt.below EditAt.stays lR_5.out hk1.out) hkl)).mono ?_
      rw [hA1h.out]
      rintro e1 u6 hR
      obtain ⟨aA, cA, nA, rfl, hT6, hb6⟩ := EdR.lowS hR
      have hTX : Hid (TreeAt u6 (World.heap (World.alloc (World.drew p2) (.cells #[.string ⟨#[]⟩, .slice none 0 0] 26))).size nA (.string (strT A)) (.slice aA (kidsOf A).length cA) A) := hT6
      clear hR hT6
      have hk2 : Hid (Below (World.heap p2).size p2 u6) := hk1.out.trans (Below.mono hb6 (Below.size hk1.out))
      have bX2 : Hid (Box u6 EE [.string ⟨#[]⟩, .slice none 0 0] 26) := Box.below bX1.out hb6 (Box.lt bX1.out)
      have lu6 := hb6.size
      clear hb6
      refine hK.out _ _ ⟨(b3_5.out.below hk2.out (Box.lt b3_5.out)).cell 0 rfl, (b3_5.out.below hk2.out (Box.lt b3_5.out)).cell 1 rfl⟩ (fun hHeld => ?_)
      clear hK K
      refine tq (i := 5) (d := 63) ?_
      simp only [sz, ss]
      refine tq (i := 6) (d := 69) ?_
      simp only [sz, ss]
      refine tq (i := 7) (d := 70) ?_
      simp only [sz, ss]
      refine wpAnyH_ready (rs := [9]) (by kernel_rfl) (by simp) ?_
      refine AllReadyH.cons rfl (fun K hK => ?_) AllReadyH.nil
      have bE9 := bX2.out
      rw [← hEEh.out] at bE9
      have u0_ := bE9.cell 0 rfl
      have u1_ := bE9.cell 1 rfl
      have uf_ := bE9.unfrozen
      go_simp
      have hkF : Hid (Below (World.heap p2).size p2 (putCells u6 (World.heap p2).size 0 [.string (strT A), .slice aA (kidsOf A).length cA])) := putCells_below [.string (strT A), .slice aA (kidsOf A).length cA] _ _ _ _ _ (by have h_ := hEEh.out; omega) hk2.out
      refine hK.out _ _ ⟨(b3_5.out.below hkF.out (Box.lt b3_5.out)).cell 0 rfl, (b3_5.out.below hkF.out (Box.lt b3_5.out)).cell 1 rfl⟩ (fun hHeld => ?_)
      clear hK K
      refine tq (i := 10) (d := 11) ?_
      simp only [sz, ss]
      refine wpAnyH_done (by kernel_rfl) ?_ _
      have eEE := hEEh.out
      have bXF : Hid (Box (putCells u6 (World.heap p2).size 0 [.string (strT A), .slice aA (kidsOf A).length cA]) EE [.string (strT A), .slice aA (kidsOf A).length cA] 26) := by rw [eEE]; exact ((bX2.out.set (i := 0) _).set (i := 1) _)
      have tXF : Hid (TreeAt (putCells u6 (World.heap p2).size 0 [.string (strT A), .slice aA (kidsOf A).length cA]) 0 nA (.string (strT A)) (.slice aA (kidsOf A).length cA) A) := TreeAt.keep (by rw [putCells_size]; exact Nat.le_refl _) (Nat.zero_le _) (fun b q1 q2 => (putCells_other [.string (strT A), .slice aA (kidsOf A).length cA] _ _ _ _ (by rw [eEE]; omega))) nA _ _ _ hTX.out
      go_wp2_with fail
      go_meet
      exact ⟨EE, nA, aA, cA, by rw [eEE], rfl, hkF, bXF, tXF⟩
  case rest =>
    obtain ⟨gA, nA, aA, cA, rfl, rfl, hbA, bA_, tA_⟩ := hcut
    have hbA' := hbA.out
    generalize wc = wA at hbA hbA' bA_ tA_ ⊢
    have tD_6 : Hid (TreeAt wA 0 4 (.string (strT d)) (.slice aT (kidsOf d).length cT) d) := TreeAt.below tD_5.out hbA'
    have lR_6 : Hid (SeqAt 5 (EditAt 4) wA 0 (.slice al l.length cl) l) := SeqAt.below EditAt.stays lR_5.out hbA'
    have b3_6 : Hid (Box wA w2.heap.size [.string (strT d), .slice aT (kidsOf d).length cT] 26) := Box.below b3_5.out hbA' (Box.lt b3_5.out)
    have tU_6 : Hid (TreeAt wA 0 nU (.string (strT (resTd o))) (.slice aU (kidsOf (resTd o)).length cU) (resTd o)) := TreeAt.below tU_5.out hbA'
    have bU_6 : Hid (Box wA w3.heap.size [.string (strT (resTd o)), .slice aU (kidsOf (resTd o)).length cU] 26) := Box.below bU_5.out hbA' (Box.lt bU_5.out)
    clear tD_5 lR_5 b3_5 tU_5 bU_5
    have hB7 : Hid (Below w.heap.size w wA) := hB6.out.trans (Below.mono hbA' (Below.size hB6.out))
    clear hB6
    have c6_b3_0 := b3_6.out.cell 0 rfl
    have c6_b3_1 := b3_6.out.cell 1 rfl
    have c6_bU_0 := bU_6.out.cell 0 rfl
    have c6_bU_1 := bU_6.out.cell 1 rfl
    have bA_6 : Hid (Box wA gA [.string (strT A), .slice aA (kidsOf A).length cA] 26) := bA_
    have tA_6 : Hid (TreeAt wA 0 nA (.string (strT A)) (.slice aA (kidsOf A).length cA) A) := tA_
    clear hsl1 hbA hbA' bA_ tA_
    clear c6_b3_0 c6_b3_1 c6_bU_0 c6_bU_1
    have c6_b3_0 := b3_6.out.cell 0 rfl
    have c6_b3_1 := b3_6.out.cell 1 rfl
    have c6_bU_0 := bU_6.out.cell 0 rfl
    have c6_bU_1 := bU_6.out.cell 1 rfl
    have c6_bA_0 := bA_6.out.cell 0 rfl
    have c6_bA_1 := bA_6.out.cell 1 rfl
    obtain ⟨al9, cl9, hsl9, hcl9, hal9⟩ := sl_from_ed al l.length cl kk hkl (by obtain ⟨_, _, e9, hm9, _⟩ := lR_6.out; injection e9 with _ _ e9; omega)
    clear c6_b3_0 c6_b3_1 c6_bU_0 c6_bU_1 c6_bA_0 c6_bA_1
    go_upto_region 10 with fail
    go_cut [12, 13] (fun s12 s13 wx => ∃ (gB nB : Nat) (aB : Option Addr) (cB : Nat), s12 = .pointer (some ⟨gB, 0, none⟩) ∧ s13 = .bool true ∧ Hid (Below (World.heap wA).size wA wx) ∧ Hid (Box wx gB [.string (strT (resTd o)), .slice aB (kidsOf (resTd o)).length cB] 26) ∧ Hid (TreeAt wx 0 nB (.string (strT (resTd o))) (.slice aB (kidsOf (resTd o)).length cB) (resTd o)))
    case first =>
      have hkd : Hid (Below (World.heap wA).size wA (World.drew wA)) := Below.drew (Below.refl _ _)
      refine wp_region_held_drew (S := fun w' => w'.cell? ⟨gA, 0, none⟩ = some (.string (strT A)) ∧ w'.cell? ⟨gA, 1, none⟩ = some (.slice aA (kidsOf A).length cA)) (by kernel_rfl) ⟨bA_6.out.cell 0 rfl, bA_6.out.cell 1 rfl⟩ (fun hHeld => ?_)
      refine tq (i := 0) (d := 72) ?_
      simp only [sz, ss]
      refine tq (i := 1) (d := 73) ?_
      simp only [sz, ss]
      refine tq (i := 2) (d := 74) ?_
      simp only [sz, ss]
      refine tq (i := 3) (d := 75) ?_
      simp only [sz, ss]
      refine wpAnyH_ready (rs := [4, 8]) (by kernel_rfl) (by simp) ?_
      refine (AllReadyH.cons rfl (fun K hK => ?_) (AllReadyH.cons rfl (fun K hK => ?_) AllReadyH.nil))
      · go_simp
        refine (implEditedAll_any (by exact TreeAt.below tA_6.out hkd.out) (seq_drop (al' := al9) (c' := cl9) (by exact SeqAt.below EditAt.stays lR_6.out hkd.out) hkl hcl9 hal9)).mono ?_
        rw [hA2h.out]
        rintro e1 u6 hR
        obtain ⟨aB, cB, nB, rfl, hT6, hb6⟩ := EdR.lowS hR
        have hTX : Hid (TreeAt u6 (World.heap (World.drew wA)).size nB (.string (strT (resTd o))) (.slice aB (kidsOf (resTd o)).length cB) (resTd o)) := hT6
        clear hR hT6
        have hk1 : Hid (Below (World.heap wA).size wA u6) := hkd.out.trans (Below.mono hb6 (Below.size hkd.out))
        have lu6 := hb6.size
        clear hb6
        refine hK.out _ _ ⟨(bA_6.out.below hk1.out (Box.lt bA_6.out)).cell 0 rfl, (bA_6.out.below hk1.out (Box.lt bA_6.out)).cell 1 rfl⟩ (fun hHeld => ?_)
        clear hK K
        refine tq (i := 5) (d := 71) ?_
        simp only [sz, ss]
        refine tq (i := 6) (d := 77) ?_
        simp only [sz, ss]
        refine tq (i := 7) (d := 78) ?_
        simp only [sz, ss]
        refine wpAnyH_ready (rs := [8]) (by kernel_rfl) (by simp) ?_
        refine AllReadyH.cons rfl (fun K hK => ?_) AllReadyH.nil
        go_simp
        have hk2 : Hid (Below (World.heap wA).size wA (World.alloc u6 (.cells #[.string ⟨#[]⟩, .slice none 0 0] 26))) := Below.alloc hk1.out (Below.size hk1.out) _
        obtain ⟨EE, hEE⟩ : ∃ EE, u6.heap.size = EE := ⟨_, rfl⟩
        have bX2 : Hid (Box (World.alloc u6 (.cells #[.string ⟨#[]⟩, .slice none 0 0] 26)) EE [.string ⟨#[]⟩, .slice none 0 0] 26) := by rw [← hEE]; exact Box.new u6 _ _
        have lE : (World.heap wA).size ≤ EE := by rw [← hEE]; have := Below.size hk1.out; exact this
        have lE0 : EE < (World.heap (World.alloc u6 (.cells #[.string ⟨#[]⟩, .slice none 0 0] 26))).size := bX2.out.lt
        have hEEh : Hid (u6.heap.size = EE) := hEE
        clear hEE
        refine hK.out _ _ ⟨(bA_6.out.below hk2.out (Box.lt bA_6.out)).cell 0 rfl, (bA_6.out.below hk2.out (Box.lt bA_6.out)).cell 1 rfl⟩ (fun hHeld => ?_)
        clear hK K
        refine wpAnyH_ready (rs := [9]) (by kernel_rfl) (by simp) ?_
        refine AllReadyH.cons rfl (fun K hK => ?_) AllReadyH.nil
        go_simp
        have hkF : Hid (Below (World.heap wA).size wA (World.alloc u6 (.cells #[.string (strT (resTd o)), .slice aB (kidsOf (resTd o)).length cB] 26))) := Below.alloc hk1.out (Below.size hk1.out) _
        refine hK.out _ _ ⟨(bA_6.out.below hkF.out (Box.lt bA_6.out)).cell 0 rfl, (bA_6.out.below hkF.out (Box.lt bA_6.out)).cell 1 rfl⟩ (fun hHeld => ?_)
        clear hK K
        refine tq (i := 10) (d := 13) ?_
        simp only [sz, ss]
        refine wpAnyH_done (by kernel_rfl) ?_ _
        have eEE := hEEh.out
        have bXF : Hid (Box (World.alloc u6 (.cells #[.string (strT (resTd o)), .slice aB (kidsOf (resTd o)).length cB] 26)) EE [.string (strT (resTd o)), .slice aB (kidsOf (resTd o)).length cB] 26) := by rw [← eEE]; exact Box.new u6 _ _
        have tXF : Hid (TreeAt (World.alloc u6 (.cells #[.string (strT (resTd o)), .slice aB (kidsOf (resTd o)).length cB] 26)) 0 nB (.string (strT (resTd o))) (.slice aB (kidsOf (resTd o)).length cB) (resTd o)) := TreeAt.keep (by simp) (Nat.zero_le _) (fun b _ q2 => Below.heap_alloc _ _ _ q2) nB _ _ _ hTX.out
        go_wp2_with fail
        go_meet
        exact ⟨EE, nB, aB, cB, by rw [eEE], rfl, hkF, bXF, tXF⟩
      · go_simp
        have hk1 : Hid (Below (World.heap wA).size wA (World.alloc (World.drew wA) (.cells #[.string ⟨#[]⟩, .slice none 0 0] 26))) := Below.alloc hkd.out (Below.size hkd.out) _
        obtain ⟨EE, hEE⟩ : ∃ EE, (World.heap wA).size = EE := ⟨_, rfl⟩
        have bX1 : Hid (Box (World.alloc (World.drew wA) (.cells #[.string ⟨#[]⟩, .slice none 0 0] 26)) EE [.string ⟨#[]⟩, .slice none 0 0] 26) := by rw [← hEE]; exact Box.new (World.drew wA) _ _
        have lE : (World.heap wA).size ≤ EE := by rw [← hEE]; have := Below.size hkd.out; exact this
        have lE0 : EE < (World.heap (World.alloc (World.drew wA) (.cells #[.string ⟨#[]⟩, .slice none 0 0] 26))).size := bX1.out.lt
        have hEEh : Hid ((World.heap wA).size = EE) := hEE
        clear hEE
        refine hK.out _ _ ⟨(bA_6.out.below hk1.out (Box.lt bA_6.out)).cell 0 rfl, (bA_6.out.below hk1.out (Box.lt bA_6.out)).cell 1 rfl⟩ (fun hHeld => ?_)
        clear hK K
        refine wpAnyH_ready (rs := [4]) (by kernel_rfl) (by simp) ?_
        refine AllReadyH.cons rfl (fun K hK => ?_) AllReadyH.nil
        go_simp
        refine (implEditedAll_any (by exact TreeAt.below tA_6.out hk1.out) (seq_drop (al' := al9) (c' := cl9) (by exact SeqAt.below EditAt.stays lR_6.out hk1.out) hkl hcl9 hal9)).mono ?_
        rw [hA2h.out]
        rintro e1 u6 hR
        obtain ⟨aB, cB, nB, rfl, hT6, hb6⟩ := EdR.lowS hR
        have hTX : Hid (TreeAt u6 (World.heap (World.alloc (World.drew wA) (.cells #[.string ⟨#[]⟩, .slice none 0 0] 26))).size nB (.string (strT (resTd o))) (.slice aB (kidsOf (resTd o)).length cB) (resTd o)) := hT6
        clear hR hT6
        have hk2 : Hid (Below (World.heap wA).size wA u6) := hk1.out.trans (Below.mono hb6 (Below.size hk1.out))
        have bX2 : Hid (Box u6 EE [.string ⟨#[]⟩, .slice none 0 0] 26) := Box.below bX1.out hb6 (Box.lt bX1.out)
        have lu6 := hb6.size
        clear hb6
        refine hK.out _ _ ⟨(bA_6.out.below hk2.out (Box.lt bA_6.out)).cell 0 rfl, (bA_6.out.below hk2.out (Box.lt bA_6.out)).cell 1 rfl⟩ (fun hHeld => ?_)
        clear hK K
        refine tq (i := 5) (d := 71) ?_
        simp only [sz, ss]
        refine tq (i := 6) (d := 77) ?_
        simp only [sz, ss]
        refine tq (i := 7) (d := 78) ?_
        simp only [sz, ss]
        refine wpAnyH_ready (rs := [9]) (by kernel_rfl) (by simp) ?_
        refine AllReadyH.cons rfl (fun K hK => ?_) AllReadyH.nil
        have bE9 := bX2.out
        rw [← hEEh.out] at bE9
        have u0_ := bE9.cell 0 rfl
        have u1_ := bE9.cell 1 rfl
        have uf_ := bE9.unfrozen
        go_simp
        have hkF : Hid (Below (World.heap wA).size wA (putCells u6 (World.heap wA).size 0 [.string (strT (resTd o)), .slice aB (kidsOf (resTd o)).length cB])) := putCells_below [.string (strT (resTd o)), .slice aB (kidsOf (resTd o)).length cB] _ _ _ _ _ (by have h_ := hEEh.out; omega) hk2.out
        refine hK.out _ _ ⟨(bA_6.out.below hkF.out (Box.lt bA_6.out)).cell 0 rfl, (bA_6.out.below hkF.out (Box.lt bA_6.out)).cell 1 rfl⟩ (fun hHeld => ?_)
        clear hK K
        refine tq (i := 10) (d := 13) ?_
        simp only [sz, ss]
        refine wpAnyH_done (by kernel_rfl) ?_ _
        have eEE := hEEh.out
        have bXF : Hid (Box (putCells u6 (World.heap wA).size 0 [.string (strT (resTd o)), .slice aB (kidsOf (resTd o)).length cB]) EE [.string (strT (resTd o)), .slice aB (kidsOf (resTd o)).length cB] 26) := by rw [eEE]; exact ((bX2.out.set (i := 0) _).set (i := 1) _)
        have tXF : Hid (TreeAt (putCells u6 (World.heap wA).size 0 [.string (strT (resTd o)), .slice aB (kidsOf (resTd o)).length cB]) 0 nB (.string (strT (resTd o))) (.slice aB (kidsOf (resTd o)).length cB) (resTd o)) := TreeAt.keep (by rw [putCells_size]; exact Nat.le_refl _) (Nat.zero_le _) (fun b q1 q2 => (putCells_other [.string (strT (resTd o)), .slice aB (kidsOf (resTd o)).length cB] _ _ _ _ (by rw [eEE]; omega))) nB _ _ _ hTX.out
        go_wp2_with fail
        go_meet
        exact ⟨EE, nB, aB, cB, by rw [eEE], rfl, hkF, bXF, tXF⟩
    case rest =>
      obtain ⟨gB, nB, aB, cB, rfl, rfl, hbB, bB_, tB_⟩ := hcut
      have hbB' := hbB.out
      generalize wc = wB at hbB hbB' bB_ tB_ ⊢
      have tD_7 : Hid (TreeAt wB 0 4 (.string (strT d)) (.slice aT (kidsOf d).length cT) d) := TreeAt.below tD_6.out hbB'
      have lR_7 : Hid (SeqAt 5 (EditAt 4) wB 0 (.slice al l.length cl) l) := SeqAt.below EditAt.stays lR_6.out hbB'
      have b3_7 : Hid (Box wB w2.heap.size [.string (strT d), .slice aT (kidsOf d).length cT] 26) := Box.below b3_6.out hbB' (Box.lt b3_6.out)
      have tU_7 : Hid (TreeAt wB 0 nU (.string (strT (resTd o))) (.slice aU (kidsOf (resTd o)).length cU) (resTd o)) := TreeAt.below tU_6.out hbB'
      have bU_7 : Hid (Box wB w3.heap.size [.string (strT (resTd o)), .slice aU (kidsOf (resTd o)).length cU] 26) := Box.below bU_6.out hbB' (Box.lt bU_6.out)
      have bA_7 : Hid (Box wB gA [.string (strT A), .slice aA (kidsOf A).length cA] 26) := Box.below bA_6.out hbB' (Box.lt bA_6.out)
      have tA_7 : Hid (TreeAt wB 0 nA (.string (strT A)) (.slice aA (kidsOf A).length cA) A) := TreeAt.below tA_6.out hbB'
      clear tD_6 lR_6 b3_6 tU_6 bU_6 bA_6 tA_6
      have hB8 : Hid (Below w.heap.size w wB) := hB7.out.trans (Below.mono hbB' (Below.size hB7.out))
      clear hB7
      have c7_b3_0 := b3_7.out.cell 0 rfl
      have c7_b3_1 := b3_7.out.cell 1 rfl
      have c7_bU_0 := bU_7.out.cell 0 rfl
      have c7_bU_1 := bU_7.out.cell 1 rfl
      have c7_bA_0 := bA_7.out.cell 0 rfl
      have c7_bA_1 := bA_7.out.cell 1 rfl
      have bB_7 : Hid (Box wB gB [.string (strT (resTd o)), .slice aB (kidsOf (resTd o)).length cB] 26) := bB_
      have tB_7 : Hid (TreeAt wB 0 nB (.string (strT (resTd o))) (.slice aB (kidsOf (resTd o)).length cB) (resTd o)) := tB_
      clear hsl9 hcl9 hal9 hbB hbB' bB_ tB_ bA_7 tA_7
      clear c7_b3_0 c7_b3_1 c7_bU_0 c7_bU_1 c7_bA_0 c7_bA_1
      have c7_b3_0 := b3_7.out.cell 0 rfl
      have c7_b3_1 := b3_7.out.cell 1 rfl
      have c7_bU_0 := bU_7.out.cell 0 rfl
      have c7_bU_1 := bU_7.out.cell 1 rfl
      have c7_bB_0 := bB_7.out.cell 0 rfl
      have c7_bB_1 := bB_7.out.cell 1 rfl
      clear c7_bU_0 c7_bU_1 c7_bB_0 c7_bB_1
      go_upto_region 12 with fail
      have halE : Below wB.heap.size wB (wB.alloc (.cells #[] 29)) := (Below.refl _ _).alloc (Nat.le_refl _) _
      have tD_8 : Hid (TreeAt (wB.alloc (.cells #[] 29)) 0 4 (.string (strT d)) (.slice aT (kidsOf d).length cT) d) := TreeAt.below tD_7.out halE
      have lR_8 : Hid (SeqAt 5 (EditAt 4) (wB.alloc (.cells #[] 29)) 0 (.slice al l.length cl) l) := SeqAt.below EditAt.stays lR_7.out halE
      have b3_8 : Hid (Box (wB.alloc (.cells #[] 29)) w2.heap.size [.string (strT d), .slice aT (kidsOf d).length cT] 26) := Box.below b3_7.out halE (Box.lt b3_7.out)
      have tU_8 : Hid (TreeAt (wB.alloc (.cells #[] 29)) 0 nU (.string (strT (resTd o))) (.slice aU (kidsOf (resTd o)).length cU) (resTd o)) := TreeAt.below tU_7.out halE
      have bU_8 : Hid (Box (wB.alloc (.cells #[] 29)) w3.heap.size [.string (strT (resTd o)), .slice aU (kidsOf (resTd o)).length cU] 26) := Box.below bU_7.out halE (Box.lt bU_7.out)
      have bB_8 : Hid (Box (wB.alloc (.cells #[] 29)) gB [.string (strT (resTd o)), .slice aB (kidsOf (resTd o)).length cB] 26) := Box.below bB_7.out halE (Box.lt bB_7.out)
      have tB_8 : Hid (TreeAt (wB.alloc (.cells #[] 29)) 0 nB (.string (strT (resTd o))) (.slice aB (kidsOf (resTd o)).length cB) (resTd o)) := TreeAt.below tB_7.out halE
      clear tD_7 lR_7 b3_7 tU_7 bU_7 bB_7 tB_7
      have hB9 : Hid (Below w.heap.size w (wB.alloc (.cells #[] 29))) := hB8.out.trans (Below.mono halE (Below.size hB8.out))
      clear hB8
      clear c7_b3_0 c7_b3_1
      have c8_b3_0 := b3_8.out.cell 0 rfl
      have c8_b3_1 := b3_8.out.cell 1 rfl
      have c8_bU_0 := bU_8.out.cell 0 rfl
      have c8_bU_1 := bU_8.out.cell 1 rfl
      have c8_bB_0 := bB_8.out.cell 0 rfl
      have c8_bB_1 := bB_8.out.cell 1 rfl
      clear c8_b3_0 c8_b3_1 c8_bU_0 c8_bU_1 c8_bB_0 c8_bB_1
      have c8_b3_0 := b3_8.out.cell 0 rfl
      have c8_b3_1 := b3_8.out.cell 1 rfl
      have c8_bU_0 := bU_8.out.cell 0 rfl
      have c8_bU_1 := bU_8.out.cell 1 rfl
      have c8_bB_0 := bB_8.out.cell 0 rfl
      have c8_bB_1 := bB_8.out.cell 1 rfl
      generalize (wB.alloc (.cells #[] 29)) = wE at tD_8 lR_8 b3_8 tU_8 bU_8 bB_8 tB_8 hB9 c8_b3_0 c8_b3_1 c8_bU_0 c8_bU_1 c8_bB_0 c8_bB_1 ⊢
      generalize hgE : wB.heap.size = gE
      clear hgE halE
      have hqE : Below wE.heap.size wE (wE.alloc (.cells #[.string (strT d), .slice aT (kidsOf d).length cT] 26)) := (Below.refl _ _).alloc (Nat.le_refl _) _
      have hZ0 : Hid (PS w l al cl d aT cT (resTd o) aU cU nU aB cB nB w2.heap.size w3.heap.size gB wE.heap.size d aT cT 4 [] (some ⟨gE, 0, none⟩) 0 0 (wE.alloc (.cells #[.string (strT d), .slice aT (kidsOf d).length cT] 26))) :=
        ⟨(row_stab lR_8.out (fun b q1 q2 => by omega)).below hqE, b3_8.out.below hqE b3_8.out.lt, (tree_stab tD_8.out (fun b _ q1 q2 => by omega)).below hqE, bU_8.out.below hqE bU_8.out.lt, (tree_stab tU_8.out (fun b _ q1 q2 => by omega)).below hqE, bB_8.out.below hqE bB_8.out.lt, (tree_stab tB_8.out (fun b _ q1 q2 => by omega)).below hqE, Box.new wE _ _, (tree_stab tD_8.out (fun b _ q1 q2 => by omega)).below hqE, ⟨_, _, rfl, by simp, fun q => by simp at q⟩, hB9.out.trans (hqE.mono hB9.out.size), by have h1 := b3_8.out.lt; have h2 := bU_8.out.lt; have h3 := bB_8.out.lt; have h4 := hB9.out.size; omega⟩
      clear hqE
      go_wp2_with fail
      generalize (wE.alloc (.cells #[.string (strT d), .slice aT (kidsOf d).length cT] 26)) = w6 at hZ0 ⊢
      generalize hB15 : wE.heap.size = B15 at hZ0 ⊢
      generalize hB3 : w2.heap.size = B3 at hZ0 ⊢
      generalize hB5 : w3.heap.size = B5 at hZ0 ⊢
      generalize gB = BB at hZ0 ⊢
      clear hB15 hB3 hB5 c8_b3_0 c8_b3_1 c8_bU_0 c8_bU_1 c8_bB_0 c8_bB_1 tD_8 lR_8 b3_8 tU_8 bU_8 bB_8 tB_8 hB9 hoh
      generalize resTd o = u at hfoh htuh hZ0
      go_loopw [14, 16] (fun v i wr => ∃ (j : Nat) (D : TD) (aj : Option Addr) (cj nj : Nat) (bk : List EditD) (ak : Option Addr) (ck nk : Nat), j ≤ l.length ∧ v = .slice ak bk.length ck ∧ i = .int .i64 j ∧ Hid (bk = backs (l.take j) d) ∧ Hid (foldE (l.drop j) D = some u) ∧ Hid (foldE (l.take j) d = some D) ∧ Hid (PS w l al cl d aT cT u aU cU nU aB cB nB B3 B5 BB B15 D aj cj nj bk ak ck nk wr)) (fun _ i _ => l.length - (intOf i).toNat)
      case atStart => exact ⟨0, d, aT, cT, 4, [], some ⟨gE, 0, none⟩, 0, 0, Nat.zero_le _, rfl, rfl, rfl, hfoh, rfl, hZ0⟩
      case round =>
        obtain ⟨j, D, aj, cj, nj, bk, ak, ck, nk, hj, rfl, rfl, hbk, hfo, hft, hZ⟩ := hrel
        clear hZ0 hfoh
        by_cases hlt : j < l.length
        · skip
          obtain ⟨bl, ol, ep, ec, ea, ecc, rfl, hbl0, hE0, z00, z10, z20, z30, z40⟩ := hZ.out.edit hlt
          obtain ⟨D2, hD20, hfo20⟩ := fold_step hlt hfo.out
          obtain ⟨hft20, hbk20⟩ := fold_take hlt hft.out hD20
          have hpE0 : l[j].vPath.length ≤ 1048576 := by have := hps'.out _ (List.getElem_mem hlt); omega
          generalize l[j] = E at hE0 z00 z10 z20 z30 z40 hD20 hpE0 hbk20
          have hbl : Hid (bl < wr.heap.size) := hbl0
          have hE : Hid (EditAt 4 wr 0 [.int .i64 E.vKind, .slice ep E.vPath.length ec, .string E.vTag, .string (strT E.vTree), .slice ea (kidsOf E.vTree).length ecc] E) := hE0
          have z0 : Hid (wr.cell? ⟨bl, ol + j * 5, none⟩ = some (.int .i64 E.vKind)) := z00
          have z1 : Hid (wr.cell? ⟨bl, ol + j * 5 + 1, none⟩ = some (.slice ep E.vPath.length ec)) := z10
          have z2 : Hid (wr.cell? ⟨bl, ol + j * 5 + 2, none⟩ = some (.string E.vTag)) := z20
          have z3 : Hid (wr.cell? ⟨bl, ol + j * 5 + 3, none⟩ = some (.string (strT E.vTree))) := z30
          have z4 : Hid (wr.cell? ⟨bl, ol + j * 5 + 4, none⟩ = some (.slice ea (kidsOf E.vTree).length ecc)) := z40
          have hD2 : Hid (editedD D E = some D2) := hD20
          have hun : Hid (undoneD D E = some (backD D E)) := undone_yes hD20
          have hfo2 : Hid (foldE (l.drop (j + 1)) D2 = some u) := hfo20
          have hft2 : Hid (foldE (l.take (j + 1)) d = some D2) := hft20
          have hbk2 : Hid (backs (l.take (j + 1)) d = backD D E :: bk) := by show _ = _; rw [hbk.out]; exact hbk20
          have hbl6 : Hid (bk.length ≤ 6) := by show _ ≤ _; rw [hbk.out]; have h1 := backs_len (l.take j) d; rw [List.length_take] at h1; have h2 := hl6'.out; omega
          have hpE : Hid (E.vPath.length ≤ 1048576) := hpE0
          have hl6n : l.length ≤ 6 := hl6'.out
          clear hbl0 hE0 z00 z10 z20 z30 z40 hD20 hfo20 hft20 hbk20 hpE0 hfo hft hbk
          have hltI : (j : Int) < (l.length : Int) := by omega
          have hj0 : (0 : Int) ≤ (j : Int) := by omega
          go_upto_region 16 with fail
          go_cut [17, 18] (fun s17 s18 wx => ∃ (gE nE : Nat) (pX : Option Addr) (dX : Nat) (aX : Option Addr) (cX : Nat), s17 = .pointer (some ⟨gE, 0, none⟩) ∧ s18 = .bool true ∧ Hid (Below wr.heap.size wr wx) ∧ Hid (Box wx gE [.int .i64 (backD D E).vKind, .slice pX (backD D E).vPath.length dX, .string (backD D E).vTag, .string (strT (backD D E).vTree), .slice aX (kidsOf (backD D E).vTree).length cX] 29) ∧ Hid (EditAt nE wx wr.heap.size [.int .i64 (backD D E).vKind, .slice pX (backD D E).vPath.length dX, .string (backD D E).vTag, .string (strT (backD D E).vTree), .slice aX (kidsOf (backD D E).vTree).length cX] (backD D E)))
          case first =>
            have hkd : Hid (Below wr.heap.size wr (World.drew wr)) := Below.drew (Below.refl _ _)
            refine wp_region_held_drew (S := fun w' => w'.cell? ⟨B15, 0, none⟩ = some (.string (strT D)) ∧ w'.cell? ⟨B15, 1, none⟩ = some (.slice aj (kidsOf D).length cj) ∧ w'.cell? ⟨bl, ol + j * 5, none⟩ = some (.int .i64 E.vKind) ∧ w'.cell? ⟨bl, ol + j * 5 + 1, none⟩ = some (.slice ep E.vPath.length ec) ∧ w'.cell? ⟨bl, ol + j * 5 + 2, none⟩ = some (.string E.vTag) ∧ w'.cell? ⟨bl, ol + j * 5 + 3, none⟩ = some (.string (strT E.vTree)) ∧ w'.cell? ⟨bl, ol + j * 5 + 4, none⟩ = some (.slice ea (kidsOf E.vTree).length ecc)) (by kernel_rfl) ⟨hZ.out.b15.cell 0 rfl, hZ.out.b15.cell 1 rfl, z0.out, z1.out, z2.out, z3.out, z4.out⟩ (fun hHeld => ?_)
            refine tq (i := 0) (d := 88) ?_
            simp only [sz, ss]
            refine tq (i := 1) (d := 89) ?_
            simp only [sz, ss]
            refine tq (i := 2) (d := 90) ?_
            simp only [sz, ss]
            refine tq (i := 3) (d := 91) ?_
            simp only [sz, ss]
            refine tq (i := 4) (d := 92) ?_
            simp only [sz, ss]
            refine wpAnyH_ready (rs := [5, 9]) (by kernel_rfl) (by simp) ?_
            refine (AllReadyH.cons rfl (fun K hK => ?_) (AllReadyH.cons rfl (fun K hK => ?_) AllReadyH.nil))
            · go_simp
              refine (implUndone_any (by exact (hZ.out.below hkd.out).hD.here) (EditAt.stays _ _ _ _ _ _ (.of_below hkd.out) hE.out) hpE.out).mono ?_
              rw [hun.out]
              rintro e1 u6 hR
              obtain ⟨pX, dX, aX, cX, nE, rfl, hT6, hb6⟩ := UnR.low hR
              have hTX : Hid (EditAt nE u6 (World.heap wr.drew).size [.int .i64 (backD D E).vKind, .slice pX (backD D E).vPath.length dX, .string (backD D E).vTag, .string (strT (backD D E).vTree), .slice aX (kidsOf (backD D E).vTree).length cX] (backD D E)) := hT6
              have hlo6 : wr.heap.size ≤ (World.heap wr.drew).size := Below.size hkd.out
              clear hR hT6
              have hk1 : Hid (Below wr.heap.size wr u6) := hkd.out.trans (Below.mono hb6 (Below.size hkd.out))
              have lu6 := hb6.size
              clear hb6
              refine hK.out _ _ ⟨(hZ.out.below hk1.out).b15.cell 0 rfl, (hZ.out.below hk1.out).b15.cell 1 rfl, (hk1.out.cell (p := ⟨bl, ol + j * 5, none⟩) hbl.out).trans z0.out, (hk1.out.cell (p := ⟨bl, ol + j * 5 + 1, none⟩) hbl.out).trans z1.out, (hk1.out.cell (p := ⟨bl, ol + j * 5 + 2, none⟩) hbl.out).trans z2.out, (hk1.out.cell (p := ⟨bl, ol + j * 5 + 3, none⟩) hbl.out).trans z3.out, (hk1.out.cell (p := ⟨bl, ol + j * 5 + 4, none⟩) hbl.out).trans z4.out⟩ (fun hHeld => ?_)
              clear hK K
              refine tq (i := 6) (d := 87) ?_
              simp only [sz, ss]
              refine tq (i := 7) (d := 94) ?_
              simp only [sz, ss]
              refine tq (i := 8) (d := 95) ?_
              simp only [sz, ss]
              refine wpAnyH_ready (rs := [9]) (by kernel_rfl) (by simp) ?_
              refine AllReadyH.cons rfl (fun K hK => ?_) AllReadyH.nil
              go_simp
              have hk2 : Hid (Below wr.heap.size wr (World.alloc u6 (.cells #[.int .i64 0, .slice none 0 0, .string ⟨#[]⟩, .string ⟨#[]⟩, .slice none 0 0] 29))) := Below.alloc hk1.out (Below.size hk1.out) _
              obtain ⟨EE, hEE⟩ : ∃ EE, u6.heap.size = EE := ⟨_, rfl⟩
              have bX2 : Hid (Box (World.alloc u6 (.cells #[.int .i64 0, .slice none 0 0, .string ⟨#[]⟩, .string ⟨#[]⟩, .slice none 0 0] 29)) EE [.int .i64 0, .slice none 0 0, .string ⟨#[]⟩, .string ⟨#[]⟩, .slice none 0 0] 29) := by rw [← hEE]; exact Box.new u6 _ _
              have lE : wr.heap.size ≤ EE := by rw [← hEE]; have := Below.size hk1.out; exact this
              have lE0 : EE < (World.heap (World.alloc u6 (.cells #[.int .i64 0, .slice none 0 0, .string ⟨#[]⟩, .string ⟨#[]⟩, .slice none 0 0] 29))).size := bX2.out.lt
              have hEEh : Hid (u6.heap.size = EE) := hEE
              clear hEE
              refine hK.out _ _ ⟨(hZ.out.below hk2.out).b15.cell 0 rfl, (hZ.out.below hk2.out).b15.cell 1 rfl, (hk2.out.cell (p := ⟨bl, ol + j * 5, none⟩) hbl.out).trans z0.out, (hk2.out.cell (p := ⟨bl, ol + j * 5 + 1, none⟩) hbl.out).trans z1.out, (hk2.out.cell (p := ⟨bl, ol + j * 5 + 2, none⟩) hbl.out).trans z2.out, (hk2.out.cell (p := ⟨bl, ol + j * 5 + 3, none⟩) hbl.out).trans z3.out, (hk2.out.cell (p := ⟨bl, ol + j * 5 + 4, none⟩) hbl.out).trans z4.out⟩ (fun hHeld => ?_)
              clear hK K
              refine wpAnyH_ready (rs := [10]) (by kernel_rfl) (by simp) ?_
              refine AllReadyH.cons rfl (fun K hK => ?_) AllReadyH.nil
              go_simp
              have hkF : Hid (Below wr.heap.size wr (World.alloc u6 (.cells #[.int .i64 (backD D E).vKind, .slice pX (backD D E).vPath.length dX, .string (backD D E).vTag, .string (strT (backD D E).vTree), .slice aX (kidsOf (backD D E).vTree).length cX] 29))) := Below.alloc hk1.out (Below.size hk1.out) _
              refine hK.out _ _ ⟨(hZ.out.below hkF.out).b15.cell 0 rfl, (hZ.out.below hkF.out).b15.cell 1 rfl, (hkF.out.cell (p := ⟨bl, ol + j * 5, none⟩) hbl.out).trans z0.out, (hkF.out.cell (p := ⟨bl, ol + j * 5 + 1, none⟩) hbl.out).trans z1.out, (hkF.out.cell (p := ⟨bl, ol + j * 5 + 2, none⟩) hbl.out).trans z2.out, (hkF.out.cell (p := ⟨bl, ol + j * 5 + 3, none⟩) hbl.out).trans z3.out, (hkF.out.cell (p := ⟨bl, ol + j * 5 + 4, none⟩) hbl.out).trans z4.out⟩ (fun hHeld => ?_)
              clear hK K
              refine tq (i := 11) (d := 18) ?_
              simp only [sz, ss]
              refine wpAnyH_done (by kernel_rfl) ?_ _
              have eEE := hEEh.out
              have bXF : Hid (Box (World.alloc u6 (.cells #[.int .i64 (backD D E).vKind, .slice pX (backD D E).vPath.length dX, .string (backD D E).vTag, .string (strT (backD D E).vTree), .slice aX (kidsOf (backD D E).vTree).length cX] 29)) EE [.int .i64 (backD D E).vKind, .slice pX (backD D E).vPath.length dX, .string (backD D E).vTag, .string (strT (backD D E).vTree), .slice aX (kidsOf (backD D E).vTree).length cX] 29) := by rw [← eEE]; exact Box.new u6 _ _
              have tXF : Hid (EditAt nE (World.alloc u6 (.cells #[.int .i64 (backD D E).vKind, .slice pX (backD D E).vPath.length dX, .string (backD D E).vTag, .string (strT (backD D E).vTree), .slice aX (kidsOf (backD D E).vTree).length cX] 29)) wr.heap.size [.int .i64 (backD D E).vKind, .slice pX (backD D E).vPath.length dX, .string (backD D E).vTag, .string (strT (backD D E).vTree), .slice aX (kidsOf (backD D E).vTree).length cX] (backD D E)) := EditAt.stays _ _ _ _ _ _ ⟨(by simp), hlo6, (fun b _ q2 => Below.heap_alloc _ _ _ q2)⟩ hTX.out
              go_wp2_with fail
              go_meet
              exact ⟨EE, nE, pX, dX, aX, cX, by rw [eEE], rfl, hkF, bXF, tXF⟩
            · go_simp
              have hk1 : Hid (Below wr.heap.size wr (World.alloc wr.drew (.cells #[.int .i64 0, .slice none 0 0, .string ⟨#[]⟩, .string ⟨#[]⟩, .slice none 0 0] 29))) := Below.alloc hkd.out (Below.size hkd.out) _
              obtain ⟨EE, hEE⟩ : ∃ EE, wr.heap.size = EE := ⟨_, rfl⟩
              have bX1 : Hid (Box (World.alloc wr.drew (.cells #[.int .i64 0, .slice none 0 0, .string ⟨#[]⟩, .string ⟨#[]⟩, .slice none 0 0] 29)) EE [.int .i64 0, .slice none 0 0, .string ⟨#[]⟩, .string ⟨#[]⟩, .slice none 0 0] 29) := by rw [← hEE]; exact Box.new wr.drew _ _
              have lE : wr.heap.size ≤ EE := by rw [← hEE]; have := Below.size hkd.out; exact this
              have lE0 : EE < (World.heap (World.alloc wr.drew (.cells #[.int .i64 0, .slice none 0 0, .string ⟨#[]⟩, .string ⟨#[]⟩, .slice none 0 0] 29))).size := bX1.out.lt
              have hEEh : Hid (wr.heap.size = EE) := hEE
              clear hEE
              refine hK.out _ _ ⟨(hZ.out.below hk1.out).b15.cell 0 rfl, (hZ.out.below hk1.out).b15.cell 1 rfl, (hk1.out.cell (p := ⟨bl, ol + j * 5, none⟩) hbl.out).trans z0.out, (hk1.out.cell (p := ⟨bl, ol + j * 5 + 1, none⟩) hbl.out).trans z1.out, (hk1.out.cell (p := ⟨bl, ol + j * 5 + 2, none⟩) hbl.out).trans z2.out, (hk1.out.cell (p := ⟨bl, ol + j * 5 + 3, none⟩) hbl.out).trans z3.out, (hk1.out.cell (p := ⟨bl, ol + j * 5 + 4, none⟩) hbl.out).trans z4.out⟩ (fun hHeld => ?_)
              clear hK K
              refine wpAnyH_ready (rs := [5]) (by kernel_rfl) (by simp) ?_
              refine AllReadyH.cons rfl (fun K hK => ?_) AllReadyH.nil
              go_simp
              refine (implUndone_any (by exact (hZ.out.below hk1.out).hD.here) (EditAt.stays _ _ _ _ _ _ (.of_below hk1.out) hE.out) hpE.out).mono ?_
              rw [hun.out]
              rintro e1 u6 hR
              obtain ⟨pX, dX, aX, cX, nE, rfl, hT6, hb6⟩ := UnR.low hR
              have hTX : Hid (EditAt nE u6 (World.heap (World.alloc wr.drew (.cells #[.int .i64 0, .slice none 0 0, .string ⟨#[]⟩, .string ⟨#[]⟩, .slice none 0 0] 29))).size [.int .i64 (backD D E).vKind, .slice pX (backD D E).vPath.length dX, .string (backD D E).vTag, .string (strT (backD D E).vTree), .slice aX (kidsOf (backD D E).vTree).length cX] (backD D E)) := hT6
              have hlo6 : wr.heap.size ≤ (World.heap (World.alloc wr.drew (.cells #[.int .i64 0, .slice none 0 0, .string ⟨#[]⟩, .string ⟨#[]⟩, .slice none 0 0] 29))).size := Below.size hk1.out
              clear hR hT6
              have hk2 : Hid (Below wr.heap.size wr u6) := hk1.out.trans (Below.mono hb6 (Below.size hk1.out))
              have bX2 : Hid (Box u6 EE [.int .i64 0, .slice none 0 0, .string ⟨#[]⟩, .string ⟨#[]⟩, .slice none 0 0] 29) := Box.below bX1.out hb6 (Box.lt bX1.out)
              have lu6 := hb6.size
              clear hb6
              refine hK.out _ _ ⟨(hZ.out.below hk2.out).b15.cell 0 rfl, (hZ.out.below hk2.out).b15.cell 1 rfl, (hk2.out.cell (p := ⟨bl, ol + j * 5, none⟩) hbl.out).trans z0.out, (hk2.out.cell (p := ⟨bl, ol + j * 5 + 1, none⟩) hbl.out).trans z1.out, (hk2.out.cell (p := ⟨bl, ol + j * 5 + 2, none⟩) hbl.out).trans z2.out, (hk2.out.cell (p := ⟨bl, ol + j * 5 + 3, none⟩) hbl.out).trans z3.out, (hk2.out.cell (p := ⟨bl, ol + j * 5 + 4, none⟩) hbl.out).trans z4.out⟩ (fun hHeld => ?_)
              clear hK K
              refine tq (i := 6) (d := 87) ?_
              simp only [sz, ss]
              refine tq (i := 7) (d := 94) ?_
              simp only [sz, ss]
              refine tq (i := 8) (d := 95) ?_
              simp only [sz, ss]
              refine wpAnyH_ready (rs := [10]) (by kernel_rfl) (by simp) ?_
              refine AllReadyH.cons rfl (fun K hK => ?_) AllReadyH.nil
              have bE9 := bX2.out
              rw [← hEEh.out] at bE9
              have u0_ := bE9.cell 0 rfl
              have u1_ := bE9.cell 1 rfl
              have u2_ := bE9.cell 2 rfl
              have u3_ := bE9.cell 3 rfl
              have u4_ := bE9.cell 4 rfl
              have uf_ := bE9.unfrozen
              go_simp
              have hkF : Hid (Below wr.heap.size wr (putCells u6 wr.heap.size 0 [.int .i64 (backD D E).vKind, .slice pX (backD D E).vPath.length dX, .string (backD D E).vTag, .string (strT (backD D E).vTree), .slice aX (kidsOf (backD D E).vTree).length cX])) := putCells_below [.int .i64 (backD D E).vKind, .slice pX (backD D E).vPath.length dX, .string (backD D E).vTag, .string (strT (backD D E).vTree), .slice aX (kidsOf (backD D E).vTree).length cX] _ _ _ _ _ (by have h_ := hEEh.out; omega) hk2.out
              refine hK.out _ _ ⟨(hZ.out.below hkF.out).b15.cell 0 rfl, (hZ.out.below hkF.out).b15.cell 1 rfl, (hkF.out.cell (p := ⟨bl, ol + j * 5, none⟩) hbl.out).trans z0.out, (hkF.out.cell (p := ⟨bl, ol + j * 5 + 1, none⟩) hbl.out).trans z1.out, (hkF.out.cell (p := ⟨bl, ol + j * 5 + 2, none⟩) hbl.out).trans z2.out, (hkF.out.cell (p := ⟨bl, ol + j * 5 + 3, none⟩) hbl.out).trans z3.out, (hkF.out.cell (p := ⟨bl, ol + j * 5 + 4, none⟩) hbl.out).trans z4.out⟩ (fun hHeld => ?_)
              clear hK K
              refine tq (i := 11) (d := 18) ?_
              simp only [sz, ss]
              refine wpAnyH_done (by kernel_rfl) ?_ _
              have eEE := hEEh.out
              have bXF : Hid (Box (putCells u6 wr.heap.size 0 [.int .i64 (backD D E).vKind, .slice pX (backD D E).vPath.length dX, .string (backD D E).vTag, .string (strT (backD D E).vTree), .slice aX (kidsOf (backD D E).vTree).length cX]) EE [.int .i64 (backD D E).vKind, .slice pX (backD D E).vPath.length dX, .string (backD D E).vTag, .string (strT (backD D E).vTree), .slice aX (kidsOf (backD D E).vTree).length cX] 29) := by rw [eEE]; exact (((((bX2.out.set (i := 0) _).set (i := 1) _).set (i := 2) _).set (i := 3) _).set (i := 4) _)
              have tXF : Hid (EditAt nE (putCells u6 wr.heap.size 0 [.int .i64 (backD D E).vKind, .slice pX (backD D E).vPath.length dX, .string (backD D E).vTag, .string (strT (backD D E).vTree), .slice aX (kidsOf (backD D E).vTree).length cX]) wr.heap.size [.int .i64 (backD D E).vKind, .slice pX (backD D E).vPath.length dX, .string (backD D E).vTag, .string (strT (backD D E).vTree), .slice aX (kidsOf (backD D E).vTree).length cX] (backD D E)) := EditAt.stays _ _ _ _ _ _ ⟨(by rw [putCells_size]; exact Nat.le_refl _), hlo6, (fun b q1 q2 => (putCells_other [.int .i64 (backD D E).vKind, .slice pX (backD D E).vPath.length dX, .string (backD D E).vTag, .string (strT (backD D E).vTree), .slice aX (kidsOf (backD D E).vTree).length cX] _ _ _ _ (by rw [eEE]; omega)))⟩ hTX.out
              go_wp2_with fail
              go_meet
              exact ⟨EE, nE, pX, dX, aX, cX, by rw [eEE], rfl, hkF, bXF, tXF⟩
          case rest =>
            obtain ⟨gE, nE, pX, dX, aX, cX, rfl, rfl, hk, bX, tX⟩ := hcut
            have hZc : Hid (PS w l (some ⟨bl, ol, none⟩) cl d aT cT u aU cU nU aB cB nB B3 B5 BB B15 D aj cj nj bk ak ck nk wc) := hZ.out.below hk.out
            obtain ⟨css, hcss0⟩ := seq_css (by decide) hZc.out.hk
            have hcss : Hid (CssAt 5 (EditAt nk) wc (B15 + 1) ak bk css) := hcss0
            have hqA : Hid (Below wc.heap.size wc (wc.alloc (.cells #[.int .i64 (backD D E).vKind, .slice pX (backD D E).vPath.length dX, .string (backD D E).vTag, .string (strT (backD D E).vTree), .slice aX (kidsOf (backD D E).vTree).length cX] 29))) := (Below.refl _ _).alloc (Nat.le_refl _) _
            have hsrc : Hid (CssAt 5 (EditAt nk) (wc.alloc (.cells #[.int .i64 (backD D E).vKind, .slice pX (backD D E).vPath.length dX, .string (backD D E).vTag, .string (strT (backD D E).vTree), .slice aX (kidsOf (backD D E).vTree).length cX] 29)) (B15 + 1) ak bk css) := hcss0.below hqA.out
            have hown : Hid ((wc.alloc (.cells #[.int .i64 (backD D E).vKind, .slice pX (backD D E).vPath.length dX, .string (backD D E).vTag, .string (strT (backD D E).vTree), .slice aX (kidsOf (backD D E).vTree).length cX] 29)).ownsRow wc.heap.size 29 5 (.slice (some ⟨wc.heap.size, 0, none⟩) 1 1) 1 [.int .i64 (backD D E).vKind, .slice pX (backD D E).vPath.length dX, .string (backD D E).vTag, .string (strT (backD D E).vTree), .slice aX (kidsOf (backD D E).vTree).length cX]) := ⟨rfl, Or.inr ⟨_, _, ([.int .i64 (backD D E).vKind, .slice pX (backD D E).vPath.length dX, .string (backD D E).vTag, .string (strT (backD D E).vTree), .slice aX (kidsOf (backD D E).vTree).length cX] : List Value).toArray, rfl, Nat.le_refl _, Box.new wc [.int .i64 (backD D E).vKind, .slice pX (backD D E).vPath.length dX, .string (backD D E).vTag, .string (strT (backD D E).vTree), .slice aX (kidsOf (backD D E).vTree).length cX] 29, Nat.le_refl _, by decide, rfl, rfl⟩⟩
            have hlX : Hid (B15 + 1 ≤ wr.heap.size) := by have := hZ.out.b15.lt; exact this
            clear hcss0
            have e0 := bX.out.cell 0 rfl
            have e1 := bX.out.cell 1 rfl
            have e2 := bX.out.cell 2 rfl
            have e3 := bX.out.cell 3 rfl
            have e4 := bX.out.cell 4 rfl
            have hbl6n : bk.length ≤ 6 := hbl6.out
            obtain ⟨iT, hiT0, heT0, heT1, heT2⟩ := info_parts infoEd
            have hiT : Hid (Try.prog.info? 29 = some iT) := hiT0
            have heT : Hid (iT.zero = some (.agg #[.int .i64 0, .slice none 0 0, .string ByteArray.empty, .string ByteArray.empty, .slice none 0 0]) ∧ iT.size = 5 ∧ iT.bytes = 88) := ⟨heT0, heT1, heT2⟩
            clear hiT0 heT0 heT1 heT2
            go_upto_region 20 with (at_builtin; refine wpList_append_rows (R := EditAt nk) rfl _ _ 44 rfl wc.heap.size (B15 + 1) 29 iT _ 88 Try.underlying44 hiT.out heT.out.1 heT.out.2.1 heT.out.2.2 rfl (by decide) (.slice (some ⟨wc.heap.size, 0, none⟩) 1 1) 1 [.int .i64 (backD D E).vKind, .slice pX (backD D E).vPath.length dX, .string (backD D E).vTag, .string (strT (backD D E).vTree), .slice aX (kidsOf (backD D E).vTree).length cX] rfl (by simp) hown.out ak ck bk css rfl hsrc.out hsrc.out.ones (by unfold maxLen; omega) (by omega) (by simp) ?_; intro v9 w9 ho9 hg9 hne9 hat9)
            have hq9 : Hid (Below wc.heap.size wc w9) := hqA.out.grown hg9 (by simp) (fun k e => own_block2 hown.out k e)
            have ho9' : w9.ownsRow wc.heap.size 29 5 v9 (backD D E :: bk).length ([.int .i64 (backD D E).vKind, .slice pX (backD D E).vPath.length dX, .string (backD D E).vTag, .string (strT (backD D E).vTree), .slice aX (kidsOf (backD D E).vTree).length cX] :: css).flatten := by rw [List.length_cons, Nat.add_comm, List.flatten_cons]; exact ho9
            obtain ⟨g9, c9, rfl⟩ := nonnil_row ho9' hne9
            have hrow9 := seq_front ho9' rfl (EditAt.stays _ _ _ _ _ _ ⟨Nat.le_refl _, hlX.out, fun _ _ _ => rfl⟩ tX.out) hcss.out hq9.out hne9 (by unfold maxLen; rw [List.length_cons]; omega) (by have h1 := hlX.out; have h2 := hk.out.size; omega)
            have hZ9 : Hid (PS w l (some ⟨bl, ol, none⟩) cl d aT cT u aU cU nU aB cB nB B3 B5 BB B15 D aj cj nj (backD D E :: bk) (some ⟨g9, 0, none⟩) c9 (nE + nk) w9) := (hZc.out.below hq9.out).row hrow9
            have hk9 : Hid (Below wr.heap.size wr w9) := hk.out.trans (hq9.out.mono hk.out.size)
            clear ho9 hg9 hne9 hat9 ho9' hrow9 hq9 hcss hqA hsrc hown hiT heT e0 e1 e2 e3 e4 bX tX hZc hlX
            generalize (backD D E :: bk) = bk2 at hZ9 hbk2 ⊢
            clear hbl6n hbl6
            have hd9 : Hid (Below w9.heap.size w9 (World.drew w9)) := Below.drew (Below.refl _ _)
            have hkd8 : Hid (Below wr.heap.size wr (World.drew w9)) := hk9.out.trans (Below.mono hd9.out (Below.size hk9.out))
            refine wp_region_held_drew (S := fun w' => w'.cell? ⟨B3, 0, none⟩ = some (.string (strT d))) (by kernel_rfl) (hZ9.out.b3.cell 0 rfl) (fun hHeld => ?_)
            refine tq (i := 1) (d := 104) ?_
            simp only [sz, ss]
            refine tq (i := 2) (d := 105) ?_
            simp only [sz, ss]
            refine tq (i := 3) (d := 106) ?_
            simp only [sz, ss]
            refine wpAnyH_ready (rs := [0, 4]) (by kernel_rfl) (by simp) ?_
            refine (AllReadyH.cons rfl (fun K hK => ?_) (AllReadyH.cons rfl (fun K hK => ?_) AllReadyH.nil))
            · have c0 := (hZ9.out.below hd9.out).b15.cell 0 rfl
              have c1 := (hZ9.out.below hd9.out).b15.cell 1 rfl
              go_simp
              refine hK.out _ _ ((hZ9.out.below hd9.out).b3.cell 0 rfl) (fun hHeld => ?_)
              clear hK K
              refine wpAnyH_ready (rs := [4]) (by kernel_rfl) (by simp) ?_
              refine AllReadyH.cons rfl (fun K hK => ?_) AllReadyH.nil
              have f0 := (hkd8.out.cell (p := ⟨bl, ol + j * 5, none⟩) hbl.out).trans z0.out
              have f1 := (hkd8.out.cell (p := ⟨bl, ol + j * 5 + 1, none⟩) hbl.out).trans z1.out
              have f2 := (hkd8.out.cell (p := ⟨bl, ol + j * 5 + 2, none⟩) hbl.out).trans z2.out
              have f3 := (hkd8.out.cell (p := ⟨bl, ol + j * 5 + 3, none⟩) hbl.out).trans z3.out
              have f4 := (hkd8.out.cell (p := ⟨bl, ol + j * 5 + 4, none⟩) hbl.out).trans z4.out
              go_simp
              refine hK.out _ _ ((hZ9.out.below hd9.out).b3.cell 0 rfl) (fun hHeld => ?_)
              clear hK K
              refine wpAnyH_ready (rs := [5]) (by kernel_rfl) (by simp) ?_
              refine AllReadyH.cons rfl (fun K hK => ?_) AllReadyH.nil
              go_simp
              refine (implEdited_any (by exact (hZ9.out.below hd9.out).hD.here) (EditAt.stays _ _ _ _ _ _ (.of_below hkd8.out) hE.out)).mono ?_
              rw [hD2.out]
              rintro e8 w8 hR
              obtain ⟨aM, cM, nM, rfl, hT8, hb8⟩ := EdR.lowS hR
              have hk8 : Hid (Below w9.heap.size w9 w8) := hd9.out.trans (Below.mono hb8 (Below.size hd9.out))
              have hZ8 : Hid (PS w l (some ⟨bl, ol, none⟩) cl d aT cT u aU cU nU aB cB nB B3 B5 BB B15 D aj cj nj bk2 (some ⟨g9, 0, none⟩) c9 (nE + nk) w8) := hZ9.out.below hk8.out
              have hN8 : Hid (Stab (fun b => b = B15) w8 (fun W => TreeAt W 0 nM (.string (strT D2)) (.slice aM (kidsOf D2).length cM) D2)) := tree_stab hT8 (fun b q1 _ q3 => by have h1 := hZ9.out.b15.lt; have h2 := Below.size hd9.out; omega)
              clear hR hT8 hb8
              refine hK.out _ _ (hZ8.out.b3.cell 0 rfl) (fun hHeld => ?_)
              clear hK K
              refine tq (i := 6) (d := 102) ?_
              simp only [sz, ss]
              refine tq (i := 7) (d := 109) ?_
              simp only [sz, ss]
              refine tq (i := 8) (d := 110) ?_
              simp only [sz, ss]
              refine wpAnyH_ready (rs := [9]) (by kernel_rfl) (by simp) ?_
              refine AllReadyH.cons rfl (fun K hK => ?_) AllReadyH.nil
              have d0 := hZ8.out.b15.cell 0 rfl
              have d1 := hZ8.out.b15.cell 1 rfl
              have df := hZ8.out.b15.unfrozen
              have hZ10 : Hid (PS w l (some ⟨bl, ol, none⟩) cl d aT cT u aU cU nU aB cB nB B3 B5 BB B15 D2 aM cM nM bk2 (some ⟨g9, 0, none⟩) c9 (nE + nk) (putCells w8 B15 0 [.string (strT D2), .slice aM (kidsOf D2).length cM])) := hZ8.out.turn hN8.out
              go_simp
              refine hK.out _ _ (hZ10.out.b3.cell 0 rfl) (fun hHeld => ?_)
              clear hK K
              refine wpAnyH_done (by kernel_rfl) ?_ _
              go_wp2_with fail
              go_roundw
              case rel => exact ⟨j + 1, D2, aM, cM, nM, bk2, some ⟨g9, 0, none⟩, c9, nE + nk, by omega, rfl, by go_num, hbk2.out.symm, hfo2, hft2, hZ10⟩
              case measure => simp [intOf]; omega
            · have f0 := (hkd8.out.cell (p := ⟨bl, ol + j * 5, none⟩) hbl.out).trans z0.out
              have f1 := (hkd8.out.cell (p := ⟨bl, ol + j * 5 + 1, none⟩) hbl.out).trans z1.out
              have f2 := (hkd8.out.cell (p := ⟨bl, ol + j * 5 + 2, none⟩) hbl.out).trans z2.out
              have f3 := (hkd8.out.cell (p := ⟨bl, ol + j * 5 + 3, none⟩) hbl.out).trans z3.out
              have f4 := (hkd8.out.cell (p := ⟨bl, ol + j * 5 + 4, none⟩) hbl.out).trans z4.out
              go_simp
              refine hK.out _ _ ((hZ9.out.below hd9.out).b3.cell 0 rfl) (fun hHeld => ?_)
              clear hK K
              refine wpAnyH_ready (rs := [0]) (by kernel_rfl) (by simp) ?_
              refine AllReadyH.cons rfl (fun K hK => ?_) AllReadyH.nil
              have c0 := (hZ9.out.below hd9.out).b15.cell 0 rfl
              have c1 := (hZ9.out.below hd9.out).b15.cell 1 rfl
              go_simp
              refine hK.out _ _ ((hZ9.out.below hd9.out).b3.cell 0 rfl) (fun hHeld => ?_)
              clear hK K
              refine wpAnyH_ready (rs := [5]) (by kernel_rfl) (by simp) ?_
              refine AllReadyH.cons rfl (fun K hK => ?_) AllReadyH.nil
              go_simp
              refine (implEdited_any (by exact (hZ9.out.below hd9.out).hD.here) (EditAt.stays _ _ _ _ _ _ (.of_below hkd8.out) hE.out)).mono ?_
              rw [hD2.out]
              rintro e8 w8 hR
              obtain ⟨aM, cM, nM, rfl, hT8, hb8⟩ := EdR.lowS hR
              have hk8 : Hid (Below w9.heap.size w9 w8) := hd9.out.trans (Below.mono hb8 (Below.size hd9.out))
              have hZ8 : Hid (PS w l (some ⟨bl, ol, none⟩) cl d aT cT u aU cU nU aB cB nB B3 B5 BB B15 D aj cj nj bk2 (some ⟨g9, 0, none⟩) c9 (nE + nk) w8) := hZ9.out.below hk8.out
              have hN8 : Hid (Stab (fun b => b = B15) w8 (fun W => TreeAt W 0 nM (.string (strT D2)) (.slice aM (kidsOf D2).length cM) D2)) := tree_stab hT8 (fun b q1 _ q3 => by have h1 := hZ9.out.b15.lt; have h2 := Below.size hd9.out; omega)
              clear hR hT8 hb8
              refine hK.out _ _ (hZ8.out.b3.cell 0 rfl) (fun hHeld => ?_)
              clear hK K
              refine tq (i := 6) (d := 102) ?_
              simp only [sz, ss]
              refine tq (i := 7) (d := 109) ?_
              simp only [sz, ss]
              refine tq (i := 8) (d := 110) ?_
              simp only [sz, ss]
              refine wpAnyH_ready (rs := [9]) (by kernel_rfl) (by simp) ?_
              refine AllReadyH.cons rfl (fun K hK => ?_) AllReadyH.nil
              have d0 := hZ8.out.b15.cell 0 rfl
              have d1 := hZ8.out.b15.cell 1 rfl
              have df := hZ8.out.b15.unfrozen
              have hZ10 : Hid (PS w l (some ⟨bl, ol, none⟩) cl d aT cT u aU cU nU aB cB nB B3 B5 BB B15 D2 aM cM nM bk2 (some ⟨g9, 0, none⟩) c9 (nE + nk) (putCells w8 B15 0 [.string (strT D2), .slice aM (kidsOf D2).length cM])) := hZ8.out.turn hN8.out
              go_simp
              refine hK.out _ _ (hZ10.out.b3.cell 0 rfl) (fun hHeld => ?_)
              clear hK K
              refine wpAnyH_done (by kernel_rfl) ?_ _
              go_wp2_with fail
              go_roundw
              case rel => exact ⟨j + 1, D2, aM, cM, nM, bk2, some ⟨g9, 0, none⟩, c9, nE + nk, by omega, rfl, by go_num, hbk2.out.symm, hfo2, hft2, hZ10⟩
              case measure => simp [intOf]; omega
        · skip
          obtain rfl : j = l.length := by omega
          obtain ⟨v, hv0, hsim0⟩ := allD_backs hl6'.out htdh.out (show foldE l d = some D by have := hft.out; rw [List.take_length] at this; exact this)
          have hDu : D = u := by have := hfo.out; rw [foldE_end] at this; injection this
          have hv : Hid (allD u bk = some v) := by show _ = _; rw [hbk.out, List.take_length, ← hDu]; exact hv0
          have hsim : Hid (∀ n, Sim n v d) := hsim0
          clear hv0 hsim0 hfo hft hbk hDu
          have c0 := hZ.out.b5.cell 0 rfl
          have c1 := hZ.out.b5.cell 1 rfl
          go_wp2_with fail
          refine (implEditedAll_any hZ.out.hu.here (SeqAt.keep EditAt.stays hZ.out.hk ⟨Nat.le_refl _, Nat.zero_le _, fun _ _ _ => rfl⟩)).mono ?_
          rw [hv.out]
          rintro e w7 hR
          obtain ⟨aV, cV, nV, rfl, hTV0, hbV⟩ := EdR.oneS hR
          have hTV : Hid (TreeAt w7 0 nV (.string (strT v)) (.slice aV (kidsOf v).length cV) v) := hTV0
          clear hR hTV0 c0 c1
          have hB7 : Hid (Below w.heap.size w w7) := hZ.out.hB.trans (hbV.mono hZ.out.hB.size)
          have b3_50 : Hid (Box w7 B3 [.string (strT d), .slice aT (kidsOf d).length cT] 26) := hZ.out.b3.below hbV hZ.out.b3.lt
          have bU_50 : Hid (Box w7 B5 [.string (strT u), .slice aU (kidsOf u).length cU] 26) := hZ.out.b5.below hbV hZ.out.b5.lt
          have bB_50 : Hid (Box w7 BB [.string (strT u), .slice aB (kidsOf u).length cB] 26) := hZ.out.bB.below hbV hZ.out.bB.lt
          have tD_50 : Hid (TreeAt w7 0 4 (.string (strT d)) (.slice aT (kidsOf d).length cT) d) := hZ.out.ht.here.below hbV
          have tU_50 : Hid (TreeAt w7 0 nU (.string (strT u)) (.slice aU (kidsOf u).length cU) u) := hZ.out.hu.here.below hbV
          have tB_50 : Hid (TreeAt w7 0 nB (.string (strT u)) (.slice aB (kidsOf u).length cB) u) := hZ.out.hb.here.below hbV
          have tV_50 : Hid (TreeAt w7 0 nV (.string (strT v)) (.slice aV (kidsOf v).length cV) v) := hTV
          have hB50 : Hid (Below w.heap.size w w7) := hB7
          clear hTV hbV hB7 hZ
          have halV : Below w7.heap.size w7 (w7.alloc (.cells #[.string (strT v), .slice aV (kidsOf v).length cV] 26)) := (Below.refl _ _).alloc (Nat.le_refl _) _
          have b3_51 : Hid (Box (w7.alloc (.cells #[.string (strT v), .slice aV (kidsOf v).length cV] 26)) B3 [.string (strT d), .slice aT (kidsOf d).length cT] 26) := Box.below b3_50.out halV (Box.lt b3_50.out)
          have bU_51 : Hid (Box (w7.alloc (.cells #[.string (strT v), .slice aV (kidsOf v).length cV] 26)) B5 [.string (strT u), .slice aU (kidsOf u).length cU] 26) := Box.below bU_50.out halV (Box.lt bU_50.out)
          have bB_51 : Hid (Box (w7.alloc (.cells #[.string (strT v), .slice aV (kidsOf v).length cV] 26)) BB [.string (strT u), .slice aB (kidsOf u).length cB] 26) := Box.below bB_50.out halV (Box.lt bB_50.out)
          have tD_51 : Hid (TreeAt (w7.alloc (.cells #[.string (strT v), .slice aV (kidsOf v).length cV] 26)) 0 4 (.string (strT d)) (.slice aT (kidsOf d).length cT) d) := TreeAt.below tD_50.out halV
          have tU_51 : Hid (TreeAt (w7.alloc (.cells #[.string (strT v), .slice aV (kidsOf v).length cV] 26)) 0 nU (.string (strT u)) (.slice aU (kidsOf u).length cU) u) := TreeAt.below tU_50.out halV
          have tB_51 : Hid (TreeAt (w7.alloc (.cells #[.string (strT v), .slice aV (kidsOf v).length cV] 26)) 0 nB (.string (strT u)) (.slice aB (kidsOf u).length cB) u) := TreeAt.below tB_50.out halV
          have tV_51 : Hid (TreeAt (w7.alloc (.cells #[.string (strT v), .slice aV (kidsOf v).length cV] 26)) 0 nV (.string (strT v)) (.slice aV (kidsOf v).length cV) v) := TreeAt.below tV_50.out halV
          clear b3_50 bU_50 bB_50 tD_50 tU_50 tB_50 tV_50
          have hB51 : Hid (Below w.heap.size w (w7.alloc (.cells #[.string (strT v), .slice aV (kidsOf v).length cV] 26))) := hB50.out.trans (Below.mono halV (Below.size hB50.out))
          clear hB50
          have c51_b3_0 := b3_51.out.cell 0 rfl
          have c51_b3_1 := b3_51.out.cell 1 rfl
          have c51_bU_0 := bU_51.out.cell 0 rfl
          have c51_bU_1 := bU_51.out.cell 1 rfl
          have c51_bB_0 := bB_51.out.cell 0 rfl
          have c51_bB_1 := bB_51.out.cell 1 rfl
          have bV_51 : Hid (Box (w7.alloc (.cells #[.string (strT v), .slice aV (kidsOf v).length cV] 26)) w7.heap.size [.string (strT v), .slice aV (kidsOf v).length cV] 26) := Box.new w7 _ _
          clear halV
          clear c51_b3_0 c51_b3_1 c51_bU_0 c51_bU_1 c51_bB_0 c51_bB_1
          have c51_b3_0 := b3_51.out.cell 0 rfl
          have c51_b3_1 := b3_51.out.cell 1 rfl
          have c51_bU_0 := bU_51.out.cell 0 rfl
          have c51_bU_1 := bU_51.out.cell 1 rfl
          have c51_bB_0 := bB_51.out.cell 0 rfl
          have c51_bB_1 := bB_51.out.cell 1 rfl
          have c51_bV_0 := bV_51.out.cell 0 rfl
          have c51_bV_1 := bV_51.out.cell 1 rfl
          obtain ⟨L, hL1, hL2, hL3, hL4⟩ : ∃ L, nU ≤ L ∧ nB ≤ L ∧ nV ≤ L ∧ 4 ≤ L := ⟨nU + nB + nV + 4, by omega, by omega, by omega, by omega⟩
          go_upto_region 22 with fail
          have hk0 : Hid (Below (World.heap (w7.alloc (.cells #[.string (strT v), .slice aV (kidsOf v).length cV] 26))).size (w7.alloc (.cells #[.string (strT v), .slice aV (kidsOf v).length cV] 26)) (World.drew (w7.alloc (.cells #[.string (strT v), .slice aV (kidsOf v).length cV] 26)))) := Below.drew (Below.refl _ _)
          refine wp_region_held_drew (S := fun w' => w'.cell? ⟨B3, 0, none⟩ = some (.string (strT d)) ∧ w'.cell? ⟨B3, 1, none⟩ = some (.slice aT (kidsOf d).length cT) ∧ w'.cell? ⟨B5, 0, none⟩ = some (.string (strT u)) ∧ w'.cell? ⟨B5, 1, none⟩ = some (.slice aU (kidsOf u).length cU) ∧ w'.cell? ⟨BB, 0, none⟩ = some (.string (strT u)) ∧ w'.cell? ⟨BB, 1, none⟩ = some (.slice aB (kidsOf u).length cB) ∧ w'.cell? ⟨w7.heap.size, 0, none⟩ = some (.string (strT v)) ∧ w'.cell? ⟨w7.heap.size, 1, none⟩ = some (.slice aV (kidsOf v).length cV)) (by kernel_rfl) ⟨b3_51.out.cell 0 rfl, b3_51.out.cell 1 rfl, bU_51.out.cell 0 rfl, bU_51.out.cell 1 rfl, bB_51.out.cell 0 rfl, bB_51.out.cell 1 rfl, bV_51.out.cell 0 rfl, bV_51.out.cell 1 rfl⟩ (fun hHeld => ?_)
          refine tq (i := 0) (d := 117) ?_
          simp only [sz, ss]
          refine tq (i := 1) (d := 118) ?_
          simp only [sz, ss]
          refine tq (i := 2) (d := 119) ?_
          simp only [sz, ss]
          refine tq (i := 3) (d := 120) ?_
          simp only [sz, ss]
          refine tq (i := 4) (d := 121) ?_
          simp only [sz, ss]
          refine tq (i := 5) (d := 122) ?_
          simp only [sz, ss]
          refine tq (i := 7) (d := 124) ?_
          simp only [sz, ss]
          refine wpAnyH_ready (rs := [6]) (by kernel_rfl) (by simp) ?_
          refine AllReadyH.cons rfl (fun K hK => ?_) AllReadyH.nil
          go_simp
          refine (implTreeText_any (TreeAt.mono hL2 (by exact TreeAt.below tB_51.out hk0.out))).mono ?_
          rintro e s1 ⟨rfl, hb1⟩
          have hk1 : Hid (Below (World.heap (w7.alloc (.cells #[.string (strT v), .slice aV (kidsOf v).length cV] 26))).size (w7.alloc (.cells #[.string (strT v), .slice aV (kidsOf v).length cV] 26)) s1) := hk0.out.trans (Below.mono hb1 (Below.size hk0.out))
          refine hK.out _ _ ⟨cell_on hb1 hHeld.1, cell_on hb1 hHeld.2.1, cell_on hb1 hHeld.2.2.1, cell_on hb1 hHeld.2.2.2.1, cell_on hb1 hHeld.2.2.2.2.1, cell_on hb1 hHeld.2.2.2.2.2.1, cell_on hb1 hHeld.2.2.2.2.2.2.1, cell_on hb1 hHeld.2.2.2.2.2.2.2⟩ (fun hHeld => ?_)
          clear hK K
          refine wpAnyH_ready (rs := [8]) (by kernel_rfl) (by simp) ?_
          refine AllReadyH.cons rfl (fun K hK => ?_) AllReadyH.nil
          go_simp
          refine (implTreeText_any (TreeAt.mono hL1 (by exact TreeAt.below tU_51.out hk1.out))).mono ?_
          rintro e s2 ⟨rfl, hb1⟩
          have hk2 : Hid (Below (World.heap (w7.alloc (.cells #[.string (strT v), .slice aV (kidsOf v).length cV] 26))).size (w7.alloc (.cells #[.string (strT v), .slice aV (kidsOf v).length cV] 26)) s2) := hk1.out.trans (Below.mono hb1 (Below.size hk1.out))
          refine hK.out _ _ ⟨cell_on hb1 hHeld.1, cell_on hb1 hHeld.2.1, cell_on hb1 hHeld.2.2.1, cell_on hb1 hHeld.2.2.2.1, cell_on hb1 hHeld.2.2.2.2.1, cell_on hb1 hHeld.2.2.2.2.2.1, cell_on hb1 hHeld.2.2.2.2.2.2.1, cell_on hb1 hHeld.2.2.2.2.2.2.2⟩ (fun hHeld => ?_)
          clear hK K
          refine take_lit (i := 9) (d := 126) (v := .bool true) rfl rfl (by kernel_rfl) (by kernel_rfl) (by kernel_rfl) (fun _ _ _ h => h) (Or.inl ⟨by rfl, ?_⟩) (by assumption) ?_
          · intro w9 _; go_simp
          simp only [sz, ss]
          refine tq (i := 10) (d := 127) ?_
          simp only [sz, ss]
          refine tq (i := 11) (d := 128) ?_
          simp only [sz, ss]
          refine tq (i := 12) (d := 129) ?_
          simp only [sz, ss]
          refine tq (i := 13) (d := 130) ?_
          simp only [sz, ss]
          refine tq (i := 14) (d := 131) ?_
          simp only [sz, ss]
          refine tq (i := 15) (d := 132) ?_
          simp only [sz, ss]
          refine tq (i := 17) (d := 134) ?_
          simp only [sz, ss]
          refine wpAnyH_ready (rs := [16]) (by kernel_rfl) (by simp) ?_
          refine AllReadyH.cons rfl (fun K hK => ?_) AllReadyH.nil
          go_simp
          refine (implTreeText_any (TreeAt.mono hL3 (by exact TreeAt.below tV_51.out hk2.out))).mono ?_
          rw [sim_textR (hsim.out L)]
          rintro e s3 ⟨rfl, hb1⟩
          have hk3 : Hid (Below (World.heap (w7.alloc (.cells #[.string (strT v), .slice aV (kidsOf v).length cV] 26))).size (w7.alloc (.cells #[.string (strT v), .slice aV (kidsOf v).length cV] 26)) s3) := hk2.out.trans (Below.mono hb1 (Below.size hk2.out))
          refine hK.out _ _ ⟨cell_on hb1 hHeld.1, cell_on hb1 hHeld.2.1, cell_on hb1 hHeld.2.2.1, cell_on hb1 hHeld.2.2.2.1, cell_on hb1 hHeld.2.2.2.2.1, cell_on hb1 hHeld.2.2.2.2.2.1, cell_on hb1 hHeld.2.2.2.2.2.2.1, cell_on hb1 hHeld.2.2.2.2.2.2.2⟩ (fun hHeld => ?_)
          clear hK K
          refine wpAnyH_ready (rs := [18]) (by kernel_rfl) (by simp) ?_
          refine AllReadyH.cons rfl (fun K hK => ?_) AllReadyH.nil
          go_simp
          refine (implTreeText_any (TreeAt.mono hL4 (by exact TreeAt.below tD_51.out hk3.out))).mono ?_
          rintro e s4 ⟨rfl, hb1⟩
          have hk4 : Hid (Below (World.heap (w7.alloc (.cells #[.string (strT v), .slice aV (kidsOf v).length cV] 26))).size (w7.alloc (.cells #[.string (strT v), .slice aV (kidsOf v).length cV] 26)) s4) := hk3.out.trans (Below.mono hb1 (Below.size hk3.out))
          refine hK.out _ _ ⟨cell_on hb1 hHeld.1, cell_on hb1 hHeld.2.1, cell_on hb1 hHeld.2.2.1, cell_on hb1 hHeld.2.2.2.1, cell_on hb1 hHeld.2.2.2.2.1, cell_on hb1 hHeld.2.2.2.2.2.1, cell_on hb1 hHeld.2.2.2.2.2.2.1, cell_on hb1 hHeld.2.2.2.2.2.2.2⟩ (fun hHeld => ?_)
          clear hK K
          refine take_lit (i := 19) (d := 136) (v := .bool true) rfl rfl (by kernel_rfl) (by kernel_rfl) (by kernel_rfl) (fun _ _ _ h => h) (Or.inl ⟨by rfl, ?_⟩) (by assumption) ?_
          · intro w9 _; go_simp
          simp only [sz, ss]
          refine tq (i := 20) (d := 137) ?_
          simp only [sz, ss]
          refine tq (i := 21) (d := 2) ?_
          simp only [sz, ss]
          refine wpAnyH_done (by kernel_rfl) ?_ _
          clear hHeld hb1
          have hbo := hk4.out
          clear hk0 hk1 hk2 hk3 hk4
          have b3_52 : Hid (Box s4 B3 [.string (strT d), .slice aT (kidsOf d).length cT] 26) := Box.below b3_51.out hbo (Box.lt b3_51.out)
          have bU_52 : Hid (Box s4 B5 [.string (strT u), .slice aU (kidsOf u).length cU] 26) := Box.below bU_51.out hbo (Box.lt bU_51.out)
          have bB_52 : Hid (Box s4 BB [.string (strT u), .slice aB (kidsOf u).length cB] 26) := Box.below bB_51.out hbo (Box.lt bB_51.out)
          have tD_52 : Hid (TreeAt s4 0 4 (.string (strT d)) (.slice aT (kidsOf d).length cT) d) := TreeAt.below tD_51.out hbo
          have tU_52 : Hid (TreeAt s4 0 nU (.string (strT u)) (.slice aU (kidsOf u).length cU) u) := TreeAt.below tU_51.out hbo
          have tB_52 : Hid (TreeAt s4 0 nB (.string (strT u)) (.slice aB (kidsOf u).length cB) u) := TreeAt.below tB_51.out hbo
          have tV_52 : Hid (TreeAt s4 0 nV (.string (strT v)) (.slice aV (kidsOf v).length cV) v) := TreeAt.below tV_51.out hbo
          have bV_52 : Hid (Box s4 w7.heap.size [.string (strT v), .slice aV (kidsOf v).length cV] 26) := Box.below bV_51.out hbo (Box.lt bV_51.out)
          clear b3_51 bU_51 bB_51 tD_51 tU_51 tB_51 tV_51 bV_51
          have hB52 : Hid (Below w.heap.size w s4) := hB51.out.trans (Below.mono hbo (Below.size hB51.out))
          clear hB51
          clear c51_b3_0 c51_b3_1 c51_bU_0 c51_bU_1 c51_bB_0 c51_bB_1 c51_bV_0 c51_bV_1
          have c52_b3_0 := b3_52.out.cell 0 rfl
          have c52_b3_1 := b3_52.out.cell 1 rfl
          have c52_bU_0 := bU_52.out.cell 0 rfl
          have c52_bU_1 := bU_52.out.cell 1 rfl
          have c52_bB_0 := bB_52.out.cell 0 rfl
          have c52_bB_1 := bB_52.out.cell 1 rfl
          have c52_bV_0 := bV_52.out.cell 0 rfl
          have c52_bV_1 := bV_52.out.cell 1 rfl
          clear hbo
          go_wp2_with fail
          go_ret
          exact ⟨rfl, hB52.out⟩
end Go.Proofs.Ytndffcogddefiaa.fnEditPieces
