/- l13Instr of the specification: walked. -/
import Derived.Test.YtdapgihghbmlfaaGreatDoorRpInt
import Derived.Test.YtdapgihghbmlfaaGreatDoorVmTextS
import Derived.Test.YtdapgihghbmlfaaGreatDoorTakeLit
namespace Go.Proofs.YtdapgihghbmlfaaGreatDoor
open Go.RowKit Go.Deep
/-- what l13Instr answers -/
def SinR (s : ByteArray) (w : World) (e : Ending) (w' : World) : Prop := ∃ (x : InstrD) (b : Bool), e = .returned (.tuple #[.agg #[.int .i64 x.vKind, .int .i64 x.vN, .string x.vName], .bool b]) ∧ (0 ≤ x.vKind ∧ x.vKind ≤ 15) ∧ InI x.vN ∧ x.vName.size ≤ 1048576 ∧ (∀ y, instrB y = true → s.data.toList = instrL y → x = y ∧ b = true) ∧ Below w.heap.size w w'
theorem SinR.mk {s : ByteArray} {w w' : World} (x : InstrD) (b : Bool) (h1 : 0 ≤ x.vKind ∧ x.vKind ≤ 15) (h2 : InI x.vN) (h3 : x.vName.size ≤ 1048576) (h4 : ∀ y, instrB y = true → s.data.toList = instrL y → x = y ∧ b = true) (h5 : Below w.heap.size w w') : SinR s w (.returned (.tuple #[.agg #[.int .i64 x.vKind, .int .i64 x.vN, .string x.vName], .bool b])) w' := ⟨x, b, rfl, h1, h2, h3, h4, h5⟩
theorem cut_same {d : UInt8} : ∀ (a p r q : List UInt8), a ++ d :: r = p ++ d :: q → (∀ c ∈ a, c ≠ d) → (∀ c ∈ p, c ≠ d) → a = p ∧ r = q := by
  intro a
  induction a with
  | nil =>
    intro p r q e _ hp
    cases p with
    | nil => simp at e; exact ⟨rfl, e⟩
    | cons c p => simp at e; exact absurd e.1.symm (hp c (by simp))
  | cons c a ih =>
    intro p r q e ha hp
    cases p with
    | nil => simp at e; exact absurd e.1 (ha c (by simp))
    | cons c' p =>
      simp only [List.cons_append, List.cons.injEq] at e
      obtain ⟨h1, h2⟩ := ih p r q e.2 (fun x hx => ha x (by simp [hx])) (fun x hx => hp x (by simp [hx]))
      exact ⟨by rw [e.1, h1], h2⟩
theorem cut_yes {d : UInt8} {s a r : ByteArray} {b : Bool} (h : CutAt d s a r b) {p q : List UInt8} (e : s.data.toList = p ++ d :: q) (hp : ∀ c ∈ p, c ≠ d) : b = true ∧ a.data.toList = p ∧ r.data.toList = q := by
  rcases h with ⟨rfl, h1, h2⟩ | ⟨rfl, rfl, rfl, h2⟩
  · rw [h1] at e
    exact ⟨rfl, cut_same _ _ _ _ e h2 hp⟩
  · exact absurd rfl (h2 d (by rw [e]; simp))
theorem cut_none {d : UInt8} {s a r : ByteArray} {b : Bool} (h : CutAt d s a r b) (hp : ∀ c ∈ s.data.toList, c ≠ d) : b = false ∧ a = s := by
  rcases h with ⟨rfl, h1, h2⟩ | ⟨rfl, rfl, rfl, h2⟩
  · exact absurd rfl (hp d (by rw [h1]; simp))
  · exact ⟨rfl, rfl⟩
theorem cut_len {d : UInt8} {s a r : ByteArray} {b : Bool} (h : CutAt d s a r b) : a.size ≤ s.size ∧ (b = true → r.size < s.size) ∧ r.size ≤ s.size := by
  rcases h with ⟨_, h, _⟩ | ⟨h1, rfl, rfl, _⟩
  · have := congrArg List.length h
    rw [List.length_append, bd_len, bd_len, List.length_cons, bd_len] at this
    exact ⟨by omega, fun _ => by omega, by omega⟩
  · exact ⟨Nat.le_refl _, fun q => by (rw [h1] at q; cases q), Nat.zero_le _⟩
theorem word_free {k : Int} (h : 1 ≤ k ∧ k ≤ 15) : ∀ c ∈ (wordT k).data.toList, c ≠ 32 := fun c hc e => by
  have := lets_get (name_lets (wordT_name h)) c hc
  rw [e] at this; exact absurd this (by decide)
/-- the word alone -/
theorem sin_bare {s a r : ByteArray} (h : CutAt 32 s a r false) : ∀ y, instrB y = true → s.data.toList = instrL y → (⟨wordK a.data.toList, 0, ⟨#[]⟩⟩ : InstrD) = y ∧ decide (0 < wordK a.data.toList) = true := by
  intro y hy e
  have hk := instrB_kind hy
  have hy' := hy
  rw [instrB_some hk] at hy'
  rcases opT_range y.vKind with q | q
  · unfold instrL at e
    rw [instrT_none q] at e
    obtain ⟨_, rfl⟩ := cut_none h (by rw [e]; exact word_free hk)
    rw [q, opdB_none] at hy'
    simp at hy'
    have hw := wordK_of hk
    rw [e, hw]
    exact ⟨ext_instr rfl hy'.1.symm (by have := hy'.2; simp [emB] at this; exact this.symm), by simp; omega⟩
  · exfalso
    have e2 : ∃ z, s.data.toList = (wordT y.vKind).data.toList ++ 32 :: z := by
      unfold instrL at e
      by_cases q3 : opT y.vKind = 3
      · rw [instrT_name q3, stx_app, stx_app] at e; exact ⟨_, by rw [e]; simp; rfl⟩
      · rw [instrT_num (by omega), stx_app, stx_app] at e; exact ⟨_, by rw [e]; simp; rfl⟩
    obtain ⟨z, hz⟩ := e2
    have := (cut_yes h hz (word_free hk)).1
    cases this
theorem named_op {k : Int} : namedB k = true ↔ opT k = 3 := by
  unfold namedB opT
  constructor
  · intro h
    simp at h
    rw [if_neg (by omega), if_neg (by omega), if_pos h]
  · intro h
    split at h
    · omega
    · split at h
      · omega
      · split at h
        · rename_i q; simp; exact q
        · omega
theorem sin_kind {s a r : ByteArray} (h : CutAt 32 s a r true) {y : InstrD} (hy : instrB y = true) (e : s.data.toList = instrL y) : wordK a.data.toList = y.vKind ∧ ((opT y.vKind = 3 ∧ r = y.vName ∧ y.vN = 0) ∨ ((opT y.vKind = 1 ∨ opT y.vKind = 2) ∧ r.data.toList = Lib.itoa y.vN ∧ y.vName = ⟨#[]⟩)) := by
  have hk := instrB_kind hy
  have hy' := hy
  rw [instrB_some hk] at hy'
  unfold instrL at e
  rcases opT_range y.vKind with q | q
  · rw [instrT_none q] at e
    have := (cut_none h (by rw [e]; exact word_free hk)).1
    cases this
  · by_cases q3 : opT y.vKind = 3
    · rw [instrT_name q3, stx_app, stx_app] at e
      have e2 : s.data.toList = (wordT y.vKind).data.toList ++ 32 :: y.vName.data.toList := by rw [e]; simp
      obtain ⟨_, h2, h3⟩ := cut_yes h e2 (word_free hk)
      rw [q3, opdB_name] at hy'
      simp at hy'
      exact ⟨by rw [h2]; exact wordK_of hk, Or.inl ⟨q3, ba_of h3, hy'.1⟩⟩
    · have qn : opT y.vKind = 1 ∨ opT y.vKind = 2 := by omega
      rw [instrT_num qn, stx_app, stx_app] at e
      have e2 : s.data.toList = (wordT y.vKind).data.toList ++ 32 :: Lib.itoa y.vN := by rw [e]; simp [decT]
      obtain ⟨_, h2, h3⟩ := cut_yes h e2 (word_free hk)
      refine ⟨by rw [h2]; exact wordK_of hk, Or.inr ⟨qn, h3, ?_⟩⟩
      rcases qn with qn | qn <;> rw [qn] at hy'
      · rw [opdB_num] at hy'; simp [emB] at hy'; exact hy'.2
      · rw [opdB_place] at hy'; simp [emB] at hy'; exact hy'.2
theorem sin_name {s a r : ByteArray} (h : CutAt 32 s a r true) (hn : namedB (wordK a.data.toList) = true) : ∀ y, instrB y = true → s.data.toList = instrL y → (⟨wordK a.data.toList, 0, r⟩ : InstrD) = y ∧ true = true := by
  intro y hy e
  obtain ⟨hk, hor⟩ := sin_kind h hy e
  rw [hk] at hn ⊢
  have := named_op.1 hn
  rcases hor with ⟨_, h2, h3⟩ | ⟨h1, _⟩
  · exact ⟨ext_instr rfl h3.symm h2, rfl⟩
  · omega
theorem sin_num {s a r : ByteArray} (h : CutAt 32 s a r true) (hn : namedB (wordK a.data.toList) = false) {n : Int} {b : Bool} (hi : ∀ m : Int, -1000000 ≤ m → m ≤ 1000000 → r.data.toList = Lib.itoa m → n = m ∧ b = true) : ∀ y, instrB y = true → s.data.toList = instrL y → (⟨wordK a.data.toList, n, ⟨#[]⟩⟩ : InstrD) = y ∧ b = true := by
  intro y hy e
  obtain ⟨hk, hor⟩ := sin_kind h hy e
  have hnum := instrB_num hy
  rcases hor with ⟨h1, _⟩ | ⟨_, h2, h3⟩
  · rw [hk] at hn; rw [named_op.2 h1] at hn; cases hn
  · obtain ⟨q1, q2⟩ := hi y.vN hnum.1 hnum.2 h2
    exact ⟨ext_instr hk q1 h3.symm, q2⟩
theorem wordK_range (t : List UInt8) : 0 ≤ wordK t ∧ wordK t ≤ 15 := by
  by_cases h : wordK t = 0
  · omega
  · have := (wordK_some h).1; omega
theorem words_get {j : Nat} (h1 : 1 ≤ j) (h2 : j < 16) : wordsL[j]? = some (.string (wordT (j : Int))) := by
  have hk : j = 1 ∨ j = 2 ∨ j = 3 ∨ j = 4 ∨ j = 5 ∨ j = 6 ∨ j = 7 ∨ j = 8 ∨ j = 9 ∨ j = 10 ∨ j = 11 ∨ j = 12 ∨ j = 13 ∨ j = 14 ∨ j = 15 := by omega
  rcases hk with rfl | rfl | rfl | rfl | rfl | rfl | rfl | rfl | rfl | rfl | rfl | rfl | rfl | rfl | rfl <;> rfl
/-- the kind that was met so far -/
def kdT (Kd : Int) (j : Nat) : Int := if 1 ≤ Kd ∧ Kd < (j : Int) then Kd else 0
set_option maxRecDepth 100000 in
set_option maxHeartbeats 8000000 in
theorem l13Instr_any (s : ByteArray) (hs : s.size ≤ 1048576) (w : World) :
    Calls Tryz.prog 28 #[.string s] w fun e w' => SinR s w e w' := by
  have hss : Hid (s.size ≤ 1048576) := hs
  clear hs
  go_enter Tryz.func28, Tryz.ntmps28
  go_wp2_with fail
  refine (l1Cut_any 32 32 rfl hss.out).mono ?_
  rintro e w1 ⟨⟨a, r, more, rfl, hcut0⟩, n1, rfl⟩
  have hcut : Hid (CutAt 32 s a r more) := hcut0
  have hrs : Hid (r.size ≤ 1048576) := by show _ ≤ _; have := (cut_len hcut0).2.2; have := hss.out; omega
  clear hcut0
  go_wp2_with fail
  refine (l13Words_any _).mono ?_
  rintro e w2 ⟨rfl, rfl⟩
  obtain ⟨W, hW⟩ : ∃ W, ((((w.alloc (.cells #[.int .i64 0, .int .i64 0, .string ⟨#[]⟩] 34)).drewN n1).alloc (.cells wordsL.toArray 9)).alloc (.cells #[.int .i64 0, .int .i64 0, .string ⟨#[]⟩] 34)) = W := ⟨_, rfl⟩
  have bR0 : Hid (Box W w.heap.size [.int .i64 0, .int .i64 0, .string ⟨#[]⟩] 34) := by rw [← hW]; exact Box.alloc (Box.alloc (w := (w.alloc (.cells #[.int .i64 0, .int .i64 0, .string ⟨#[]⟩] 34)).drewN n1) (Box.new w [.int .i64 0, .int .i64 0, .string ⟨#[]⟩] 34) _) _
  have bW0 : Hid (Box W (w.heap.size + 1) wordsL 9) := by
    rw [← hW]
    have q := Box.alloc (Box.new ((w.alloc (.cells #[.int .i64 0, .int .i64 0, .string ⟨#[]⟩] 34)).drewN n1) wordsL 9) (.cells #[.int .i64 0, .int .i64 0, .string ⟨#[]⟩] 34)
    simpa [Hid] using q
  have bI0 : Hid (Box W (w.heap.size + 2) [.int .i64 0, .int .i64 0, .string ⟨#[]⟩] 34) := by
    rw [← hW]
    have q := Box.new (((w.alloc (.cells #[.int .i64 0, .int .i64 0, .string ⟨#[]⟩] 34)).drewN n1).alloc (.cells wordsL.toArray 9)) [.int .i64 0, .int .i64 0, .string ⟨#[]⟩] 34
    simpa [Hid] using q
  have hB0 : Hid (Below w.heap.size w W) := by
    rw [← hW]
    exact (Below.alloc (Below.alloc (show Below w.heap.size w ((w.alloc (.cells #[.int .i64 0, .int .i64 0, .string ⟨#[]⟩] 34)).drewN n1) from (by have q := (Below.refl w.heap.size w).alloc (Nat.le_refl _) (.cells #[.int .i64 0, .int .i64 0, .string ⟨#[]⟩] 34); exact ⟨q.os, q.tape, q.output, q.size, q.block⟩)) (by simp) _) (by simp; omega) _)
  obtain ⟨Kd, hK⟩ : ∃ Kd, wordK a.data.toList = Kd := ⟨_, rfl⟩
  have hKr : Hid (0 ≤ Kd ∧ Kd ≤ 15) := by rw [← hK]; exact wordK_range _
  have hKh : Hid (wordK a.data.toList = Kd) := hK
  have hWh : Hid (((((w.alloc (.cells #[.int .i64 0, .int .i64 0, .string ⟨#[]⟩] 34)).drewN n1).alloc (.cells wordsL.toArray 9)).alloc (.cells #[.int .i64 0, .int .i64 0, .string ⟨#[]⟩] 34)) = W) := hW
  clear hK hW
  go_upto_region 4 with fail
  rw [hWh.out]
  clear hWh
  go_wp2_with fail
  go_loopw [9] (fun i wr => ∃ j : Nat, 1 ≤ j ∧ j ≤ 16 ∧ i = .int .i64 j ∧ Hid (Box wr w.heap.size [.int .i64 0, .int .i64 0, .string ⟨#[]⟩] 34) ∧ Hid (Box wr (w.heap.size + 1) wordsL 9) ∧ Hid (Box wr (w.heap.size + 2) [.int .i64 (kdT Kd j), .int .i64 0, .string ⟨#[]⟩] 34) ∧ Hid (Below w.heap.size w wr)) (fun i _ => 16 - (intOf i).toNat)
  case atStart => exact ⟨1, by omega, by omega, rfl, bR0, bW0, by (have : kdT Kd 1 = 0 := by unfold kdT; rw [if_neg (by omega)]); rw [this]; exact bI0, hB0⟩
  case round =>
    obtain ⟨j, hj1, hj16, rfl, bR, bW, bI, hB⟩ := hrel
    clear bR0 bW0 bI0 hB0
    by_cases hlt : j < 16
    · have cw := bW.out.cell j (words_get hj1 hlt)
      have hlt' : (j : Int) < 16 := by omega
      generalize hwd : wordT (j : Int) = wd at cw
      by_cases hwa : wd = a
      · have hKj : Kd = (j : Int) := by rw [← hKh.out, ← hwa, ← hwd]; exact wordK_of ⟨by omega, by omega⟩
        have i0 := bI.out.cell 0 rfl
        have f0 := bI.out.unfrozen 0
        have bI2 : Hid (Box (wr.setCell ⟨(w.heap.size + 2), 0, none⟩ (.int .i64 (j : Int))) (w.heap.size + 2) [.int .i64 (kdT Kd (j + 1)), .int .i64 0, .string ⟨#[]⟩] 34) := by
          have q := Box.set (i := 0) bI.out (.int .i64 (j : Int))
          have e : kdT Kd (j + 1) = (j : Int) := by unfold kdT; rw [hKj, if_pos (by omega)]
          rw [e]; exact q
        have bR2 : Hid (Box (wr.setCell ⟨(w.heap.size + 2), 0, none⟩ (.int .i64 (j : Int))) w.heap.size [.int .i64 0, .int .i64 0, .string ⟨#[]⟩] 34) := bR.out.other (by omega) _
        have bW2 : Hid (Box (wr.setCell ⟨(w.heap.size + 2), 0, none⟩ (.int .i64 (j : Int))) (w.heap.size + 1) wordsL 9) := bW.out.other (by omega) _
        have hB2 : Hid (Below w.heap.size w (wr.setCell ⟨(w.heap.size + 2), 0, none⟩ (.int .i64 (j : Int)))) := hB.out.setCell (by simp) _
        have hcut' : Hid (CutAt 32 s a r more) := hcut.out
        clear hKj hwd
        subst hwa
        go_wp2_with fail
        go_roundw
        case rel => exact ⟨j + 1, by omega, by omega, by go_num, bR2, bW2, bI2, hB2⟩
        case measure => simp [intOf]; omega
      · have hKj : ¬ Kd = (j : Int) := fun e => by
          have q := wordK_some (t := a.data.toList) (by rw [hKh.out]; omega)
          rw [hKh.out, e, hwd] at q
          exact hwa (ba_of q.2.symm)
        have hne : (wd.toList == a.toList) = false := by simpa using bd_ne hwa
        have bI2 : Hid (Box wr (w.heap.size + 2) [.int .i64 (kdT Kd (j + 1)), .int .i64 0, .string ⟨#[]⟩] 34) := by
          have e : kdT Kd (j + 1) = kdT Kd j := by
            unfold kdT
            by_cases q : 1 ≤ Kd ∧ Kd < (j : Int)
            · rw [if_pos q, if_pos (by omega)]
            · rw [if_neg q, if_neg (by omega)]
          rw [e]; exact bI.out
        clear hwd
        go_wp2_with fail
        go_roundw
        case rel => exact ⟨j + 1, by omega, by omega, by go_num, bR, bW, bI2, hB⟩
        case measure => simp [intOf]; omega
    · have hj : j = 16 := by omega
      have hkd : kdT Kd j = Kd := by
        unfold kdT
        have := hKr.out
        by_cases q : 1 ≤ Kd ∧ Kd < (j : Int)
        · rw [if_pos q]
        · rw [if_neg q]; omega
      rw [hkd] at bI
      have hlt' : ¬ (j : Int) < 16 := by omega
      clear hkd hj
      cases more
      · have hcl : Hid (∀ y, instrB y = true → s.data.toList = instrL y → (⟨Kd, 0, ⟨#[]⟩⟩ : InstrD) = y ∧ decide (0 < Kd) = true) := by rw [← hKh.out]; exact sin_bare hcut.out
        go_upto_region 10 with fail
        refine wp_region_held_drew (S := fun w' => w'.cell? ⟨(w.heap.size + 2), 0, none⟩ = some (.int .i64 Kd) ∧ w'.cell? ⟨(w.heap.size + 2), 1, none⟩ = some (.int .i64 0) ∧ w'.cell? ⟨(w.heap.size + 2), 2, none⟩ = some (.string ⟨#[]⟩)) (by kernel_rfl) ⟨bI.out.cell 0 rfl, bI.out.cell 1 rfl, bI.out.cell 2 rfl⟩ (fun hHeld => ?_)
        refine tq (i := 0) (d := 36) ?_
        simp only [sz, ss]
        refine tq (i := 1) (d := 37) ?_
        simp only [sz, ss]
        refine tq (i := 2) (d := 38) ?_
        simp only [sz, ss]
        refine take_lit (i := 3) (d := 39) (v := .bool (decide (0 < Kd))) rfl rfl (by kernel_rfl) (by kernel_rfl) (by kernel_rfl) (fun _ _ _ h => h) (Or.inl ⟨by rfl, ?_⟩) (by assumption) ?_
        · intro w9 hS9; go_simp
        simp only [sz, ss]
        refine wpAnyH_ready (rs := [4]) (by kernel_rfl) (by simp) ?_
        refine AllReadyH.cons rfl (fun K hK => ?_) AllReadyH.nil
        have r0 := bR.out.cell 0 rfl
        have r1 := bR.out.cell 1 rfl
        have r2 := bR.out.cell 2 rfl
        have fR := bR.out.unfrozen
        have bR5 : Hid (Box (putCells wr (w.heap.size) 0 [.int .i64 Kd, .int .i64 0, .string ⟨#[]⟩]) (w.heap.size) [.int .i64 Kd, .int .i64 0, .string ⟨#[]⟩] 34) := ((bR.out.set (i := 0) _).set (i := 1) _).set (i := 2) _
        have bI5 : Hid (Box (putCells wr (w.heap.size) 0 [.int .i64 Kd, .int .i64 0, .string ⟨#[]⟩]) (w.heap.size + 2) [.int .i64 Kd, .int .i64 0, .string ⟨#[]⟩] 34) := (putCells_other _ _ _ _ _ (by omega)).trans bI.out
        go_simp
        refine hK.out _ _ ⟨bI5.out.cell 0 rfl, bI5.out.cell 1 rfl, bI5.out.cell 2 rfl⟩ (fun hHeld => ?_)
        clear hK K
        refine tq (i := 5) (d := 3) ?_
        simp only [sz, ss]
        refine wpAnyH_done (by kernel_rfl) ?_ _
        go_wp2_with fail
        have s0 : (putCells wr (w.heap.size) 0 [.int .i64 Kd, .int .i64 0, .string ⟨#[]⟩]).drew.cell? ⟨w.heap.size, 0, none⟩ = some (.int .i64 Kd) := bR5.out.cell 0 rfl
        have s1 : (putCells wr (w.heap.size) 0 [.int .i64 Kd, .int .i64 0, .string ⟨#[]⟩]).drew.cell? ⟨w.heap.size, 1, none⟩ = some (.int .i64 0) := bR5.out.cell 1 rfl
        have s2 : (putCells wr (w.heap.size) 0 [.int .i64 Kd, .int .i64 0, .string ⟨#[]⟩]).drew.cell? ⟨w.heap.size, 2, none⟩ = some (.string ⟨#[]⟩) := bR5.out.cell 2 rfl
        exact bodyPost_ret (v := .tuple #[.agg (List.toArray [.int .i64 Kd, .int .i64 0, .string ⟨#[]⟩]), .bool (decide (0 < Kd))]) (by simp only [putCells] at s0 s1 s2; simp [results, Tryz.results28, go_sem, s0, s1, s2]) rfl (SinR.mk ⟨Kd, 0, ⟨#[]⟩⟩ _ hKr.out (by show InI 0; unfold InI; decide) (Nat.zero_le _) hcl.out (Below.drew (putCells_below [.int .i64 Kd, .int .i64 0, .string ⟨#[]⟩] _ _ _ (w.heap.size) 0 (Nat.le_refl _) hB.out)))
      · have i0 := bI.out.cell 0 rfl
        go_wp2_with fail
        refine (l13Named_any Kd _).mono ?_
        rintro e w3 ⟨rfl, e9⟩
        have e10 := e9.symm
        clear e9
        subst e10
        cases hn : namedB Kd
        · go_wp2_with fail
          refine (l13Int_any r hrs.out _).mono ?_
          rintro e w3 ⟨⟨n, b, rfl, hnb, hval⟩, e9⟩
          have e10 := e9.symm
          clear e9
          subst e10
          have hcl : Hid (∀ y, instrB y = true → s.data.toList = instrL y → (⟨Kd, n, ⟨#[]⟩⟩ : InstrD) = y ∧ b = true) := by rw [← hKh.out]; exact sin_num hcut.out (by rw [hKh.out]; exact hn) hval
          have hnI : Hid (InI n) := by show InI n; unfold InI; omega
          clear hval
          have i1 := bI.out.cell 1 rfl
          have f1 := bI.out.unfrozen 1
          have bI2 : Hid (Box (wr.setCell ⟨(w.heap.size + 2), 1, none⟩ (.int .i64 n)) (w.heap.size + 2) [.int .i64 Kd, .int .i64 n, .string ⟨#[]⟩] 34) := Box.set (i := 1) bI.out _
          have bR2 : Hid (Box (wr.setCell ⟨(w.heap.size + 2), 1, none⟩ (.int .i64 n)) w.heap.size [.int .i64 0, .int .i64 0, .string ⟨#[]⟩] 34) := bR.out.other (by omega) _
          have hB2 : Hid (Below w.heap.size w (wr.setCell ⟨(w.heap.size + 2), 1, none⟩ (.int .i64 n))) := hB.out.setCell (by simp) _
          have j0 := bI2.out.cell 0 rfl
          have j1 := bI2.out.cell 1 rfl
          have j2 := bI2.out.cell 2 rfl
          have r0 := bR2.out.cell 0 rfl
          have r1 := bR2.out.cell 1 rfl
          have r2 := bR2.out.cell 2 rfl
          have fR := bR2.out.unfrozen
          go_wp2_with fail
          have z1 := Box.set (i := 2) (Box.set (i := 1) (Box.set (i := 0) bR2.out (.int .i64 Kd)) (.int .i64 n)) (.string ⟨#[]⟩)
          have z10 := z1.cell 0 rfl
          have z11 := z1.cell 1 rfl
          have z12 := z1.cell 2 rfl
          refine bodyPost_ret (v := .tuple #[.agg #[.int .i64 Kd, .int .i64 n, .string ⟨#[]⟩], .bool b]) (by simp [results, Tryz.results28, go_sem, z10, z11, z12]) rfl ?_
          exact SinR.mk ⟨Kd, n, ⟨#[]⟩⟩ b hKr.out hnI.out (Nat.zero_le _) hcl.out (putCells_below [.int .i64 Kd, .int .i64 n, .string ⟨#[]⟩] _ _ _ w.heap.size 0 (Nat.le_refl _) hB2.out)
        · have hcl : Hid (∀ y, instrB y = true → s.data.toList = instrL y → (⟨Kd, 0, r⟩ : InstrD) = y ∧ true = true) := by rw [← hKh.out]; exact sin_name hcut.out (by rw [hKh.out]; exact hn)
          have i2 := bI.out.cell 2 rfl
          have f2 := bI.out.unfrozen 2
          have bI2 : Hid (Box (wr.setCell ⟨(w.heap.size + 2), 2, none⟩ (.string r)) (w.heap.size + 2) [.int .i64 Kd, .int .i64 0, .string r] 34) := Box.set (i := 2) bI.out _
          have bR2 : Hid (Box (wr.setCell ⟨(w.heap.size + 2), 2, none⟩ (.string r)) w.heap.size [.int .i64 0, .int .i64 0, .string ⟨#[]⟩] 34) := bR.out.other (by omega) _
          have hB2 : Hid (Below w.heap.size w (wr.setCell ⟨(w.heap.size + 2), 2, none⟩ (.string r))) := hB.out.setCell (by simp) _
          have j0 := bI2.out.cell 0 rfl
          have j1 := bI2.out.cell 1 rfl
          have j2 := bI2.out.cell 2 rfl
          have r0 := bR2.out.cell 0 rfl
          have r1 := bR2.out.cell 1 rfl
          have r2 := bR2.out.cell 2 rfl
          have fR := bR2.out.unfrozen
          go_wp2_with fail
          have z1 := Box.set (i := 2) (Box.set (i := 1) (Box.set (i := 0) bR2.out (.int .i64 Kd)) (.int .i64 0)) (.string r)
          have z10 := z1.cell 0 rfl
          have z11 := z1.cell 1 rfl
          have z12 := z1.cell 2 rfl
          refine bodyPost_ret (v := .tuple #[.agg #[.int .i64 Kd, .int .i64 0, .string r], .bool true]) (by simp [results, Tryz.results28, go_sem, z10, z11, z12]) rfl ?_
          exact SinR.mk ⟨Kd, 0, r⟩ true hKr.out (by show InI 0; unfold InI; decide) hrs.out (fun y q1 q2 => ⟨(hcl.out y q1 q2).1, rfl⟩) (putCells_below [.int .i64 Kd, .int .i64 0, .string r] _ _ _ w.heap.size 0 (Nat.le_refl _) hB2.out)
end Go.Proofs.YtdapgihghbmlfaaGreatDoor
