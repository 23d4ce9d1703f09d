/- A copy of an arena: l11Copy of the specification, walked; its answer owns its memory. -/
import Derived.Test.YtcbomaflfjdmjaaArArena
import Derived.Test.YtcbomaflfjdmjaaAppendRows
namespace Go.Proofs.Ytcbomaflfjdmjaa
open Go.RowKit
theorem row_new {w : World} {B T c : Nat} (hB : B ≤ w.heap.size) : (w.alloc (.cells #[] T)).ownsRow B T c (.slice (some ⟨w.heap.size, 0, none⟩) 0 0) 0 [] :=
  ⟨by simp, Or.inr ⟨_, _, #[], rfl, hB, (MapKept.heap_alloc w _).1, Nat.le_refl _, Nat.zero_le _, by simp, by simp⟩⟩
theorem row_form {w : World} {base e size n : Nat} {v : Value} {xs : List Value} (h : w.ownsRow base e size v n xs) : ∃ a cap, v = .slice a n cap := by
  rcases h.2 with ⟨rfl, hn⟩ | ⟨g, cap, cur, rfl, _⟩
  · exact ⟨none, 0, by rw [hn]⟩
  · exact ⟨_, _, rfl⟩
theorem css_below {α : Type} {c : Nat} {R : World → Nat → List Value → α → Prop} (hR : Stays R) {w w1 w2 : World} {lo : Nat} {a : Option Addr} {xs : List α} {css : List (List Value)} (h : CssAt c R w lo a xs css) (hb : Below w.heap.size w1 w2) (hb1 : Below w.heap.size w w1) : CssAt c R w2 lo a xs css := by
  obtain ⟨k1, k2, k3, k4, k5⟩ := h
  have hb2 := hb1.trans hb
  refine ⟨k1, k2, fun i h1 h2 => hR _ _ _ _ _ _ (.of_below hb2) (k3 i h1 h2), k4, fun ad e j u hu => ?_⟩
  have z := k5 ad e j u hu
  exact (World.cell?_of_block (w := w) (w' := w2) (hb2.block _ (World.block_lt_of_cell? _ _ z))).trans z
theorem step_append_rows {α : Type} {P : Program} {w : World} {ops : Array Oper} {o : Oper} {a : Act} {K : Act → World → Prop} {Q : Exit → Act → World → Prop} {E : Prop} {c : Nat} {R : World → Nat → List Value → α → Prop} (hgd : o.guard = none) (s x : Operand) (t : TypeId)
    (ho : o.op = .call { callee := .builtin .append, args := #[s, x], argTypes := #[t, t] }) (base lo : Nat) (e : TypeId) (i : TypeInfo) (z : Value) (bytes : Nat) (ht : P.underlying t = some (.slice e)) (hi : P.info? e = some i) (hz : i.zero = some z) (hsize : i.size = c) (hby : i.bytes = bytes) (hzs : z.cells.size = c) (hc : 0 < c)
    (v : Value) (n : Nat) (ys : List Value) (hs : a.eval s = v) (hv : v ≠ .slice none 0 0) (hown : w.ownsRow base e c v n ys) (ka : Option Addr) (kc : Nat) (xs : List α) (css : List (List Value)) (hx : a.eval x = .slice ka xs.length kc) (hk : CssAt c R w lo ka xs css) (hone : ∀ cs ∈ css, ∀ u ∈ cs, u.oneCell' = true) (hl : n + xs.length ≤ maxLen) (hbytes : (n + xs.length) * bytes ≤ 140737488355328) (hbase : base ≤ w.heap.size)
    (h : ∀ v' w', w'.ownsRow base e c v' (n + xs.length) (ys ++ css.flatten) → w.grownBy w' v.ownBlock → v' ≠ .slice none 0 0 → (v'.ownBlock = v.ownBlock ∨ v'.ownBlock = some w.heap.size) → K (a.put o.dst v') w') : if Region.wanted o (yielded ops a.tmps) = true then Oper.wp P o a w K Q else E := by
  have hw : Region.wanted o (yielded ops a.tmps) = true := by simp [Region.wanted, hgd]
  rw [if_pos hw]
  obtain ⟨k1, k2, k3, k4, k5⟩ := hk
  cases ka with
  | none =>
    have hks := k4 rfl
    subst hks
    have hcs : css = [] := List.eq_nil_of_length_eq_zero (by simpa using k1)
    subst hcs
    have hown' := hown
    rcases hown.2 with ⟨q, _⟩ | ⟨g, cap, cur, rfl, hg, hh, q1, q2, q3, q4⟩
    · exact absurd q hv
    · have hsrc : Src P i.size t (.slice none 0 kc) 0 [] w := Src.ofNil w ht kc
      have hrun := run_append_room_src (P := P) w t t o.type e i ht hi g 0 n cap (.slice none 0 kc) 0 [] hsrc (by omega) (by simp) (by simp)
      have hset : w.setCells g (0 + n * i.size) [] = w := rfl
      rw [hset] at hrun
      unfold Oper.wp
      simp only [List.length_nil] at hx
      simp [execOp, ho, resolve, invoke, builtin, hs, hx, hrun, Result.andThen]
      exact h _ w (by simpa using hown') ⟨rfl, rfl, rfl, Nat.le_refl _, fun _ _ _ => rfl⟩ (by simp) (Or.inl rfl)
  | some ad =>
    obtain ⟨v', w', hr, h1, h2, h3, h4⟩ := run_append_own_at (P := P) w base t o.type e i z c bytes ht hi hz hsize hby hzs hc v n ys hown ad xs.length kc css.flatten (by rw [css_len k2, k1]) (k5 ad rfl) (fun u hu => by obtain ⟨cs, hcs, hu2⟩ := List.mem_flatten.1 hu; exact hone cs hcs u hu2) hl hbytes hbase
    unfold Oper.wp execOp
    simp only [ho, resolve, invoke, builtin, Sem.run_bind, Sem.run_pure, Result.andThen_ok, List.map_toArray, List.map_cons, List.map_nil, hs, hx, hr]
    exact h v' w' h1 h2 (fun q => hv (h3.1 q).1) h4
theorem one_of_slot {w : World} {lo : Nat} {a : Option Addr} {xs : List SlotD} {css : List (List Value)} (h : CssAt 3 SlotAt w lo a xs css) : ∀ cs ∈ css, ∀ u ∈ cs, u.oneCell' = true := by
  intro cs hcs u hu
  obtain ⟨i, hi, rfl⟩ := List.getElem_of_mem hcs
  obtain ⟨e, _⟩ := h.2.2.1 i hi (by have := h.1; omega)
  rw [e] at hu
  simp at hu
  rcases hu with rfl | rfl | rfl <;> rfl
theorem one_of_int {w : World} {lo : Nat} {a : Option Addr} {xs : List Int} {css : List (List Value)} (h : CssAt 1 IntAt w lo a xs css) : ∀ cs ∈ css, ∀ u ∈ cs, u.oneCell' = true := by
  intro cs hcs u hu
  obtain ⟨i, hi, rfl⟩ := List.getElem_of_mem hcs
  obtain ⟨e, _⟩ := h.2.2.1 i hi (by have := h.1; omega)
  rw [e] at hu
  simp at hu
  rcases hu with rfl; rfl
theorem slot_own {w w' : World} {lo : Nat} {cs : List Value} {x : SlotD} (h : SlotAt w lo cs x) : SlotOwn w' cs x [] := ⟨h.1, h.2.1, h.2.2.1, rfl⟩
theorem int_own {w w' : World} {lo : Nat} {cs : List Value} {x : Int} (h : IntAt w lo cs x) : IntOwn w' cs x [] := ⟨h.1, h.2, rfl⟩
theorem flat_of_css {α : Type} {c : Nat} {R : World → Nat → List Value → α → Prop} {O : World → List Value → α → List Nat → Prop} {w w0 : World} {base lo T : Nat} {v : Value} {xs : List α} {css : List (List Value)} {a : Option Addr} (hk : CssAt c R w0 lo a xs css) (h : w.ownsRow base T c v xs.length css.flatten) (hO : ∀ cs x, R w0 lo cs x → O w cs x []) : ∃ fs, SeqOwn c O w v xs fs ∧ (∀ b ∈ fs, base ≤ b) ∧ ∀ b ∈ fs, v.ownBlock = some b := by
  have hz : ((xs.map fun _ => ([] : List Nat))).flatten = [] := by simp
  have hg : GrowOwn T c O base w v xs (xs.map fun _ => []) css := by
    refine ⟨hk.1, by simp, hk.2.1, h, fun i h1 h2 h3 => ?_, by rw [hz]; exact List.nodup_nil, fun b hb => ?_⟩
    · have := hO _ _ (hk.2.2.1 i h2 h1)
      simpa using this
    · rw [hz] at hb; cases hb
  exact hg.flat hz
set_option maxRecDepth 100000 in
set_option maxHeartbeats 3000000 in
theorem l11Copy_any {w : World} {lo : Nat} {cs : List Value} {x : ArenaD} (hx : ArenaAt w lo cs x) (hl0 : x.vSlots.length ≤ 12) (hl1 : x.vFree.length ≤ 12) :
    Calls Try.prog 33 #[.agg cs.toArray] w fun e w' => (∃ cs, e = .returned (.agg cs.toArray) ∧ AnsA w w' cs x) ∧ Below w.heap.size w w' := by
  obtain ⟨k0, k1, rfl, s0, s1, _⟩ := hx
  obtain ⟨a0, c0, rfl⟩ := s0.form
  obtain ⟨a1, c1, rfl⟩ := s1.form
  obtain ⟨cssS, hcS0⟩ := seq_css (by decide) s0
  obtain ⟨cssI, hcI0⟩ := seq_css (by decide) s1
  have hcS : Hid (CssAt 3 SlotAt w lo a0 x.vSlots cssS) := hcS0
  have hcI : Hid (CssAt 1 IntAt w lo a1 x.vFree cssI) := hcI0
  clear s0 s1 hcS0 hcI0
  obtain ⟨iS, hS0, hS1, hS2, hS3⟩ := infoS2
  have hiS : Hid (Try.prog.info? 63 = some iS) := hS0
  have heS : Hid (iS.zero = some (.agg #[.int .i64 0, .bool false, .string ⟨#[]⟩]) ∧ iS.size = 3 ∧ iS.bytes = 32) := ⟨hS1, hS2, hS3⟩
  obtain ⟨iI, hI0, hI1, hI2, hI3⟩ := infoI2
  have hiI : Hid (Try.prog.info? 2 = some iI) := hI0
  have heI : Hid (iI.zero = some (.int .i64 0) ∧ iI.size = 1 ∧ iI.bytes = 8) := ⟨hI1, hI2, hI3⟩
  clear hS0 hS1 hS2 hS3 hI0 hI1 hI2 hI3
  have IntAt_stays := intAt_stays
  have hbD : Below w.heap.size w ((w.alloc (.cells (List.toArray [.slice a0 x.vSlots.length c0, .slice a1 x.vFree.length c1]) 27)).alloc (.cells (List.toArray [.slice none 0 0, .slice none 0 0]) 27)).drew := (((Below.refl _ _).alloc (Nat.le_refl _) _).alloc (by simp) _).drew
  have bA0 : Hid (Box ((w.alloc (.cells (List.toArray [.slice a0 x.vSlots.length c0, .slice a1 x.vFree.length c1]) 27)).alloc (.cells (List.toArray [.slice none 0 0, .slice none 0 0]) 27)) w.heap.size [.slice a0 x.vSlots.length c0, .slice a1 x.vFree.length c1] 27) := (Box.new w _ _).alloc _
  have bR : Hid (Box ((w.alloc (.cells (List.toArray [.slice a0 x.vSlots.length c0, .slice a1 x.vFree.length c1]) 27)).alloc (.cells (List.toArray [.slice none 0 0, .slice none 0 0]) 27)).drew (w.heap.size + 1) [.slice none 0 0, .slice none 0 0] 27) := by have h5 := Box.new (w.alloc (.cells (List.toArray [.slice a0 x.vSlots.length c0, .slice a1 x.vFree.length c1]) 27)) [.slice none 0 0, .slice none 0 0] 27; simp only [World.size_alloc] at h5; exact h5
  have kp0 : Hid (Below (w.heap.size + 2) ((w.alloc (.cells (List.toArray [.slice a0 x.vSlots.length c0, .slice a1 x.vFree.length c1]) 27)).alloc (.cells (List.toArray [.slice none 0 0, .slice none 0 0]) 27)).drew ((w.alloc (.cells (List.toArray [.slice a0 x.vSlots.length c0, .slice a1 x.vFree.length c1]) 27)).alloc (.cells (List.toArray [.slice none 0 0, .slice none 0 0]) 27)).drew) := Below.refl _ _
  have g0 := bA0.out.cell 0 rfl
  have g1 := bA0.out.cell 1 rfl
  go_enter Try.func33, Try.ntmps33
  go_wp2_with fail
  refine wp_region_held_drew (S := fun w' => w'.cell? ⟨w.heap.size, 0, none⟩ = some (.slice a0 x.vSlots.length c0) ∧ w'.cell? ⟨w.heap.size, 1, none⟩ = some (.slice a1 x.vFree.length c1)) (by kernel_rfl) ⟨g0, g1⟩ (fun hHeld => ?_)
  refine tq (i := 1) (d := 4) ?_
  simp only [sz, ss]
  refine tq (i := 2) (d := 5) ?_
  simp only [sz, ss]
  refine tq (i := 5) (d := 8) ?_
  simp only [sz, ss]
  refine tq (i := 6) (d := 9) ?_
  simp only [sz, ss]
  refine wpAnyH_ready (rs := [0, 4]) (by kernel_rfl) (by simp) ?_
  refine (AllReadyH.cons rfl (fun K hK => ?_) (AllReadyH.cons rfl (fun K hK => ?_) AllReadyH.nil))
  · go_simp
    have lz1 : (w.heap.size + 2) ≤ (World.heap ((w.alloc (.cells (List.toArray [.slice a0 x.vSlots.length c0, .slice a1 x.vFree.length c1]) 27)).alloc (.cells (List.toArray [.slice none 0 0, .slice none 0 0]) 27)).drew).size := by have h5 := kp0.out.size; first | (simp; done) | (simp at h5; omega) | (simp at h5 ⊢; omega)
    have kp1 : Hid (Below (w.heap.size + 2) ((w.alloc (.cells (List.toArray [.slice a0 x.vSlots.length c0, .slice a1 x.vFree.length c1]) 27)).alloc (.cells (List.toArray [.slice none 0 0, .slice none 0 0]) 27)).drew (World.alloc ((w.alloc (.cells (List.toArray [.slice a0 x.vSlots.length c0, .slice a1 x.vFree.length c1]) 27)).alloc (.cells (List.toArray [.slice none 0 0, .slice none 0 0]) 27)).drew (.cells #[] 63))) := kp0.out.alloc lz1 _
    have rS1 : Hid (World.ownsRow (World.alloc ((w.alloc (.cells (List.toArray [.slice a0 x.vSlots.length c0, .slice a1 x.vFree.length c1]) 27)).alloc (.cells (List.toArray [.slice none 0 0, .slice none 0 0]) 27)).drew (.cells #[] 63)) (w.heap.size + 2) 63 3 (.slice (some ⟨w.heap.size + 1 + 1, 0, none⟩) 0 0) 0 []) := by have h5 := row_new (T := 63) (c := 3) lz1; simpa [Hid] using h5
    refine hK.out _ _ ⟨cell_alloc hHeld.1 _, cell_alloc hHeld.2 _⟩ (fun hHeld => ?_)
    clear hK K
    refine wpAnyH_ready (rs := [3, 4]) (by kernel_rfl) (by simp) ?_
    refine (AllReadyH.cons rfl (fun K hK => ?_) (AllReadyH.cons rfl (fun K hK => ?_) AllReadyH.nil))
    · have cs2 : Hid (CssAt 3 SlotAt (World.alloc ((w.alloc (.cells (List.toArray [.slice a0 x.vSlots.length c0, .slice a1 x.vFree.length c1]) 27)).alloc (.cells (List.toArray [.slice none 0 0, .slice none 0 0]) 27)).drew (.cells #[] 63)) lo a0 x.vSlots cssS) := css_below SlotAt_stays hcS.out (Below.mono kp1.out (by omega)) hbD
      have lz2 : (w.heap.size + 2) ≤ (World.heap (World.alloc ((w.alloc (.cells (List.toArray [.slice a0 x.vSlots.length c0, .slice a1 x.vFree.length c1]) 27)).alloc (.cells (List.toArray [.slice none 0 0, .slice none 0 0]) 27)).drew (.cells #[] 63))).size := by have h5 := kp1.out.size; first | (simp; done) | (simp at h5; omega) | (simp at h5 ⊢; omega)
      refine step_append_rows (w := (World.alloc ((w.alloc (.cells (List.toArray [.slice a0 x.vSlots.length c0, .slice a1 x.vFree.length c1]) 27)).alloc (.cells (List.toArray [.slice none 0 0, .slice none 0 0]) 27)).drew (.cells #[] 63))) (R := SlotAt) rfl _ _ 24 rfl (w.heap.size + 2) lo 63 iS _ 32 Try.underlying24 hiS.out heS.out.1 heS.out.2.1 heS.out.2.2 rfl (by decide) (.slice (some ⟨w.heap.size + 1 + 1, 0, none⟩) 0 0) 0 [] rfl (by simp) rS1.out a0 c0 x.vSlots cssS rfl cs2.out (fun cs hcs u hu => one_of_slot hcS.out cs hcs u hu) (by unfold maxLen; omega) (by omega) lz2 ?_
      intro vS u2 ho2 hg2 hn2 hat2
      rw [Nat.zero_add, List.nil_append] at ho2
      have rS2 : Hid (World.ownsRow u2 (w.heap.size + 2) 63 3 vS x.vSlots.length cssS.flatten) := ho2
      have kp2 : Hid (Below (w.heap.size + 2) ((w.alloc (.cells (List.toArray [.slice a0 x.vSlots.length c0, .slice a1 x.vFree.length c1]) 27)).alloc (.cells (List.toArray [.slice none 0 0, .slice none 0 0]) 27)).drew u2) := kp1.out.trans ((Below.refl _ _).grown hg2 lz2 (fun b e => own_block2 rS1.out b e))
      obtain ⟨pS, dS, rfl⟩ : ∃ a cap, vS = .slice a x.vSlots.length cap := by have h5 := row_form rS2.out; exact h5
      go_simp
      refine hK.out _ _ ⟨cell_grown hHeld.1 hg2 (by intro e; have := own_block2 rS1.out _ e; omega), cell_grown hHeld.2 hg2 (by intro e; have := own_block2 rS1.out _ e; omega)⟩ (fun hHeld => ?_)
      clear hK K
      refine wpAnyH_ready (rs := [4]) (by kernel_rfl) (by simp) ?_
      refine AllReadyH.cons rfl (fun K hK => ?_) AllReadyH.nil
      go_simp
      have lz3 : (w.heap.size + 2) ≤ (World.heap u2).size := by have h5 := kp2.out.size; first | (simp; done) | (simp at h5; omega) | (simp at h5 ⊢; omega)
      have kp3 : Hid (Below (w.heap.size + 2) ((w.alloc (.cells (List.toArray [.slice a0 x.vSlots.length c0, .slice a1 x.vFree.length c1]) 27)).alloc (.cells (List.toArray [.slice none 0 0, .slice none 0 0]) 27)).drew (World.alloc u2 (.cells #[] 2))) := kp2.out.alloc lz3 _
      have rS3 : Hid (World.ownsRow (World.alloc u2 (.cells #[] 2)) (w.heap.size + 2) 63 3 (.slice pS x.vSlots.length dS) x.vSlots.length cssS.flatten) := row_below rS2.out ((Below.refl _ _).alloc (Nat.le_refl _) _)
      have rI3 : Hid (World.ownsRow (World.alloc u2 (.cells #[] 2)) (w.heap.size + 2) 2 1 (.slice (some ⟨u2.heap.size, 0, none⟩) 0 0) 0 []) := row_new lz3
      refine hK.out _ _ ⟨cell_alloc hHeld.1 _, cell_alloc hHeld.2 _⟩ (fun hHeld => ?_)
      clear hK K
      refine wpAnyH_ready (rs := [7]) (by kernel_rfl) (by simp) ?_
      refine AllReadyH.cons rfl (fun K hK => ?_) AllReadyH.nil
      have cs4 : Hid (CssAt 1 IntAt (World.alloc u2 (.cells #[] 2)) lo a1 x.vFree cssI) := css_below IntAt_stays hcI.out (Below.mono kp3.out (by omega)) hbD
      have lz4 : (w.heap.size + 2) ≤ (World.heap (World.alloc u2 (.cells #[] 2))).size := by have h5 := kp3.out.size; first | (simp; done) | (simp at h5; omega) | (simp at h5 ⊢; omega)
      refine step_append_rows (w := (World.alloc u2 (.cells #[] 2))) (R := IntAt) rfl _ _ 25 rfl (w.heap.size + 2) lo 2 iI _ 8 Try.underlying25 hiI.out heI.out.1 heI.out.2.1 heI.out.2.2 rfl (by decide) (.slice (some ⟨u2.heap.size, 0, none⟩) 0 0) 0 [] rfl (by simp) rI3.out a1 c1 x.vFree cssI rfl cs4.out (fun cs hcs u hu => one_of_int hcI.out cs hcs u hu) (by unfold maxLen; omega) (by omega) lz4 ?_
      intro vI u4 ho4 hg4 hn4 hat4
      rw [Nat.zero_add, List.nil_append] at ho4
      have rI4 : Hid (World.ownsRow u4 (w.heap.size + 2) 2 1 vI x.vFree.length cssI.flatten) := ho4
      have kp4 : Hid (Below (w.heap.size + 2) ((w.alloc (.cells (List.toArray [.slice a0 x.vSlots.length c0, .slice a1 x.vFree.length c1]) 27)).alloc (.cells (List.toArray [.slice none 0 0, .slice none 0 0]) 27)).drew u4) := kp3.out.trans ((Below.refl _ _).grown hg4 lz4 (fun b e => own_block2 rI3.out b e))
      have rS4 : Hid (World.ownsRow u4 (w.heap.size + 2) 63 3 (.slice pS x.vSlots.length dS) x.vSlots.length cssS.flatten) := row_keep rS3.out (fun g e => hg4.block g (row_lt rS3.out g e) (fun e2 => rows_apart rS3.out rI3.out (by decide) e e2.symm))
      obtain ⟨pI, dI, rfl⟩ : ∃ a cap, vI = .slice a x.vFree.length cap := by have h5 := row_form rI4.out; exact h5
      go_simp
      refine hK.out _ _ ⟨cell_grown hHeld.1 hg4 (by intro e; have := own_block2 rI3.out _ e; omega), cell_grown hHeld.2 hg4 (by intro e; have := own_block2 rI3.out _ e; omega)⟩ (fun hHeld => ?_)
      clear hK K
      refine tq (i := 8) (d := 11) ?_
      simp only [sz, ss]
      refine wpAnyH_ready (rs := [9]) (by kernel_rfl) (by simp) ?_
      refine AllReadyH.cons rfl (fun K hK => ?_) AllReadyH.nil
      have bR_ : Hid (Box u4 (w.heap.size + 1) [.slice none 0 0, .slice none 0 0] 27) := (kp4.out.block _ (by omega)).trans bR.out
      have cR0 := bR_.out.cell 0 rfl
      have cR1 := bR_.out.cell 1 rfl
      have fR := bR_.out.unfrozen
      go_simp
      refine hK.out _ _ ⟨cell_set (cell_set hHeld.1 (by omega) _) (by omega) _, cell_set (cell_set hHeld.2 (by omega) _) (by omega) _⟩ (fun hHeld => ?_)
      clear hK K
      refine wpAnyH_done (by kernel_rfl) ?_ _
      obtain ⟨fs, hS, hSl, hSo⟩ := flat_of_css (O := SlotOwn) hcS.out rS4.out (fun cs x h => slot_own h)
      obtain ⟨ffs, hI, hIl, hIo⟩ := flat_of_css (O := IntOwn) hcI.out rI4.out (fun cs x h => int_own h)
      have hans : Hid (∀ w', (∀ b, w.heap.size + 2 ≤ b → w'.heap[b]? = (World.heap u4)[b]?) → AnsA w w' [.slice pS x.vSlots.length dS, .slice pI x.vFree.length dI] x) := fun w' k => ansRows (hS.stays SlotOwn_stays (fun b q => k b (hSl b q))) (hI.stays intOwn_stays (fun b q => k b (hIl b q))) hSl hIl (by omega) (fun b q1 q2 => rows_apart rS4.out rI4.out (by decide) (hSo b q1) (hIo b q2))
      have bF : Hid (Box (putCells u4 (w.heap.size + 1) 0 [.slice pS x.vSlots.length dS, .slice pI x.vFree.length dI]) (w.heap.size + 1) [.slice pS x.vSlots.length dS, .slice pI x.vFree.length dI] 27) := (bR_.out.set _).set _
      have q0 := bF.out.cell 0 rfl
      have q1 := bF.out.cell 1 rfl
      simp only [putCells, Nat.zero_add] at q0 q1
      have hBf : Hid (Below w.heap.size w (putCells u4 (w.heap.size + 1) 0 [.slice pS x.vSlots.length dS, .slice pI x.vFree.length dI])) := putCells_below _ _ _ _ _ _ (by omega) (hbD.trans (kp4.out.mono (by omega)))
      have hkk : Hid (∀ b, w.heap.size + 2 ≤ b → (putCells u4 (w.heap.size + 1) 0 [.slice pS x.vSlots.length dS, .slice pI x.vFree.length dI]).heap[b]? = (World.heap u4)[b]?) := fun b qq => putCells_other _ _ _ _ b (by omega)
      clear hS hI hSo hIo cR0 cR1
      go_wp2_with fail
      refine bodyPost_ret (v := .agg (List.toArray [.slice pS x.vSlots.length dS, .slice pI x.vFree.length dI])) (by simp [results, Try.results33, go_sem, q0, q1]) rfl ⟨⟨[.slice pS x.vSlots.length dS, .slice pI x.vFree.length dI], rfl, hans.out _ hkk.out⟩, hBf.out⟩
    · go_simp
      have lz2 : (w.heap.size + 2) ≤ (World.heap (World.alloc ((w.alloc (.cells (List.toArray [.slice a0 x.vSlots.length c0, .slice a1 x.vFree.length c1]) 27)).alloc (.cells (List.toArray [.slice none 0 0, .slice none 0 0]) 27)).drew (.cells #[] 63))).size := by have h5 := kp1.out.size; first | (simp; done) | (simp at h5; omega) | (simp at h5 ⊢; omega)
      have kp2 : Hid (Below (w.heap.size + 2) ((w.alloc (.cells (List.toArray [.slice a0 x.vSlots.length c0, .slice a1 x.vFree.length c1]) 27)).alloc (.cells (List.toArray [.slice none 0 0, .slice none 0 0]) 27)).drew (World.alloc (World.alloc ((w.alloc (.cells (List.toArray [.slice a0 x.vSlots.length c0, .slice a1 x.vFree.length c1]) 27)).alloc (.cells (List.toArray [.slice none 0 0, .slice none 0 0]) 27)).drew (.cells #[] 63)) (.cells #[] 2))) := kp1.out.alloc lz2 _
      have rS2 : Hid (World.ownsRow (World.alloc (World.alloc ((w.alloc (.cells (List.toArray [.slice a0 x.vSlots.length c0, .slice a1 x.vFree.length c1]) 27)).alloc (.cells (List.toArray [.slice none 0 0, .slice none 0 0]) 27)).drew (.cells #[] 63)) (.cells #[] 2)) (w.heap.size + 2) 63 3 (.slice (some ⟨w.heap.size + 1 + 1, 0, none⟩) 0 0) 0 []) := row_below rS1.out ((Below.refl _ _).alloc (Nat.le_refl _) _)
      have rI2 : Hid (World.ownsRow (World.alloc (World.alloc ((w.alloc (.cells (List.toArray [.slice a0 x.vSlots.length c0, .slice a1 x.vFree.length c1]) 27)).alloc (.cells (List.toArray [.slice none 0 0, .slice none 0 0]) 27)).drew (.cells #[] 63)) (.cells #[] 2)) (w.heap.size + 2) 2 1 (.slice (some ⟨w.heap.size + 1 + 1 + 1, 0, none⟩) 0 0) 0 []) := by have h5 := row_new (T := 2) (c := 1) lz2; simpa [Hid] using h5
      refine hK.out _ _ ⟨cell_alloc hHeld.1 _, cell_alloc hHeld.2 _⟩ (fun hHeld => ?_)
      clear hK K
      refine wpAnyH_ready (rs := [3]) (by kernel_rfl) (by simp) ?_
      refine AllReadyH.cons rfl (fun K hK => ?_) AllReadyH.nil
      have cs3 : Hid (CssAt 3 SlotAt (World.alloc (World.alloc ((w.alloc (.cells (List.toArray [.slice a0 x.vSlots.length c0, .slice a1 x.vFree.length c1]) 27)).alloc (.cells (List.toArray [.slice none 0 0, .slice none 0 0]) 27)).drew (.cells #[] 63)) (.cells #[] 2)) lo a0 x.vSlots cssS) := css_below SlotAt_stays hcS.out (Below.mono kp2.out (by omega)) hbD
      have lz3 : (w.heap.size + 2) ≤ (World.heap (World.alloc (World.alloc ((w.alloc (.cells (List.toArray [.slice a0 x.vSlots.length c0, .slice a1 x.vFree.length c1]) 27)).alloc (.cells (List.toArray [.slice none 0 0, .slice none 0 0]) 27)).drew (.cells #[] 63)) (.cells #[] 2))).size := by have h5 := kp2.out.size; first | (simp; done) | (simp at h5; omega) | (simp at h5 ⊢; omega)
      refine step_append_rows (w := (World.alloc (World.alloc ((w.alloc (.cells (List.toArray [.slice a0 x.vSlots.length c0, .slice a1 x.vFree.length c1]) 27)).alloc (.cells (List.toArray [.slice none 0 0, .slice none 0 0]) 27)).drew (.cells #[] 63)) (.cells #[] 2))) (R := SlotAt) rfl _ _ 24 rfl (w.heap.size + 2) lo 63 iS _ 32 Try.underlying24 hiS.out heS.out.1 heS.out.2.1 heS.out.2.2 rfl (by decide) (.slice (some ⟨w.heap.size + 1 + 1, 0, none⟩) 0 0) 0 [] rfl (by simp) rS2.out a0 c0 x.vSlots cssS rfl cs3.out (fun cs hcs u hu => one_of_slot hcS.out cs hcs u hu) (by unfold maxLen; omega) (by omega) lz3 ?_
      intro vS u3 ho3 hg3 hn3 hat3
      rw [Nat.zero_add, List.nil_append] at ho3
      have rS3 : Hid (World.ownsRow u3 (w.heap.size + 2) 63 3 vS x.vSlots.length cssS.flatten) := ho3
      have kp3 : Hid (Below (w.heap.size + 2) ((w.alloc (.cells (List.toArray [.slice a0 x.vSlots.length c0, .slice a1 x.vFree.length c1]) 27)).alloc (.cells (List.toArray [.slice none 0 0, .slice none 0 0]) 27)).drew u3) := kp2.out.trans ((Below.refl _ _).grown hg3 lz3 (fun b e => own_block2 rS2.out b e))
      have rI3 : Hid (World.ownsRow u3 (w.heap.size + 2) 2 1 (.slice (some ⟨w.heap.size + 1 + 1 + 1, 0, none⟩) 0 0) 0 []) := row_keep rI2.out (fun g e => hg3.block g (row_lt rI2.out g e) (fun e2 => rows_apart rI2.out rS2.out (by decide) e e2.symm))
      obtain ⟨pS, dS, rfl⟩ : ∃ a cap, vS = .slice a x.vSlots.length cap := by have h5 := row_form rS3.out; exact h5
      go_simp
      refine hK.out _ _ ⟨cell_grown hHeld.1 hg3 (by intro e; have := own_block2 rS2.out _ e; omega), cell_grown hHeld.2 hg3 (by intro e; have := own_block2 rS2.out _ e; omega)⟩ (fun hHeld => ?_)
      clear hK K
      refine wpAnyH_ready (rs := [7]) (by kernel_rfl) (by simp) ?_
      refine AllReadyH.cons rfl (fun K hK => ?_) AllReadyH.nil
      have cs4 : Hid (CssAt 1 IntAt u3 lo a1 x.vFree cssI) := css_below IntAt_stays hcI.out (Below.mono kp3.out (by omega)) hbD
      have lz4 : (w.heap.size + 2) ≤ (World.heap u3).size := by have h5 := kp3.out.size; first | (simp; done) | (simp at h5; omega) | (simp at h5 ⊢; omega)
      refine step_append_rows (w := u3) (R := IntAt) rfl _ _ 25 rfl (w.heap.size + 2) lo 2 iI _ 8 Try.underlying25 hiI.out heI.out.1 heI.out.2.1 heI.out.2.2 rfl (by decide) (.slice (some ⟨w.heap.size + 1 + 1 + 1, 0, none⟩) 0 0) 0 [] rfl (by simp) rI3.out a1 c1 x.vFree cssI rfl cs4.out (fun cs hcs u hu => one_of_int hcI.out cs hcs u hu) (by unfold maxLen; omega) (by omega) lz4 ?_
      intro vI u4 ho4 hg4 hn4 hat4
      rw [Nat.zero_add, List.nil_append] at ho4
      have rI4 : Hid (World.ownsRow u4 (w.heap.size + 2) 2 1 vI x.vFree.length cssI.flatten) := ho4
      have kp4 : Hid (Below (w.heap.size + 2) ((w.alloc (.cells (List.toArray [.slice a0 x.vSlots.length c0, .slice a1 x.vFree.length c1]) 27)).alloc (.cells (List.toArray [.slice none 0 0, .slice none 0 0]) 27)).drew u4) := kp3.out.trans ((Below.refl _ _).grown hg4 lz4 (fun b e => own_block2 rI3.out b e))
      have rS4 : Hid (World.ownsRow u4 (w.heap.size + 2) 63 3 (.slice pS x.vSlots.length dS) x.vSlots.length cssS.flatten) := row_keep rS3.out (fun g e => hg4.block g (row_lt rS3.out g e) (fun e2 => rows_apart rS3.out rI3.out (by decide) e e2.symm))
      obtain ⟨pI, dI, rfl⟩ : ∃ a cap, vI = .slice a x.vFree.length cap := by have h5 := row_form rI4.out; exact h5
      go_simp
      refine hK.out _ _ ⟨cell_grown hHeld.1 hg4 (by intro e; have := own_block2 rI3.out _ e; omega), cell_grown hHeld.2 hg4 (by intro e; have := own_block2 rI3.out _ e; omega)⟩ (fun hHeld => ?_)
      clear hK K
      refine tq (i := 8) (d := 11) ?_
      simp only [sz, ss]
      refine wpAnyH_ready (rs := [9]) (by kernel_rfl) (by simp) ?_
      refine AllReadyH.cons rfl (fun K hK => ?_) AllReadyH.nil
      have bR_ : Hid (Box u4 (w.heap.size + 1) [.slice none 0 0, .slice none 0 0] 27) := (kp4.out.block _ (by omega)).trans bR.out
      have cR0 := bR_.out.cell 0 rfl
      have cR1 := bR_.out.cell 1 rfl
      have fR := bR_.out.unfrozen
      go_simp
      refine hK.out _ _ ⟨cell_set (cell_set hHeld.1 (by omega) _) (by omega) _, cell_set (cell_set hHeld.2 (by omega) _) (by omega) _⟩ (fun hHeld => ?_)
      clear hK K
      refine wpAnyH_done (by kernel_rfl) ?_ _
      obtain ⟨fs, hS, hSl, hSo⟩ := flat_of_css (O := SlotOwn) hcS.out rS4.out (fun cs x h => slot_own h)
      obtain ⟨ffs, hI, hIl, hIo⟩ := flat_of_css (O := IntOwn) hcI.out rI4.out (fun cs x h => int_own h)
      have hans : Hid (∀ w', (∀ b, w.heap.size + 2 ≤ b → w'.heap[b]? = (World.heap u4)[b]?) → AnsA w w' [.slice pS x.vSlots.length dS, .slice pI x.vFree.length dI] x) := fun w' k => ansRows (hS.stays SlotOwn_stays (fun b q => k b (hSl b q))) (hI.stays intOwn_stays (fun b q => k b (hIl b q))) hSl hIl (by omega) (fun b q1 q2 => rows_apart rS4.out rI4.out (by decide) (hSo b q1) (hIo b q2))
      have bF : Hid (Box (putCells u4 (w.heap.size + 1) 0 [.slice pS x.vSlots.length dS, .slice pI x.vFree.length dI]) (w.heap.size + 1) [.slice pS x.vSlots.length dS, .slice pI x.vFree.length dI] 27) := (bR_.out.set _).set _
      have q0 := bF.out.cell 0 rfl
      have q1 := bF.out.cell 1 rfl
      simp only [putCells, Nat.zero_add] at q0 q1
      have hBf : Hid (Below w.heap.size w (putCells u4 (w.heap.size + 1) 0 [.slice pS x.vSlots.length dS, .slice pI x.vFree.length dI])) := putCells_below _ _ _ _ _ _ (by omega) (hbD.trans (kp4.out.mono (by omega)))
      have hkk : Hid (∀ b, w.heap.size + 2 ≤ b → (putCells u4 (w.heap.size + 1) 0 [.slice pS x.vSlots.length dS, .slice pI x.vFree.length dI]).heap[b]? = (World.heap u4)[b]?) := fun b qq => putCells_other _ _ _ _ b (by omega)
      clear hS hI hSo hIo cR0 cR1
      go_wp2_with fail
      refine bodyPost_ret (v := .agg (List.toArray [.slice pS x.vSlots.length dS, .slice pI x.vFree.length dI])) (by simp [results, Try.results33, go_sem, q0, q1]) rfl ⟨⟨[.slice pS x.vSlots.length dS, .slice pI x.vFree.length dI], rfl, hans.out _ hkk.out⟩, hBf.out⟩
  · go_simp
    have lz1 : (w.heap.size + 2) ≤ (World.heap ((w.alloc (.cells (List.toArray [.slice a0 x.vSlots.length c0, .slice a1 x.vFree.length c1]) 27)).alloc (.cells (List.toArray [.slice none 0 0, .slice none 0 0]) 27)).drew).size := by have h5 := kp0.out.size; first | (simp; done) | (simp at h5; omega) | (simp at h5 ⊢; omega)
    have kp1 : Hid (Below (w.heap.size + 2) ((w.alloc (.cells (List.toArray [.slice a0 x.vSlots.length c0, .slice a1 x.vFree.length c1]) 27)).alloc (.cells (List.toArray [.slice none 0 0, .slice none 0 0]) 27)).drew (World.alloc ((w.alloc (.cells (List.toArray [.slice a0 x.vSlots.length c0, .slice a1 x.vFree.length c1]) 27)).alloc (.cells (List.toArray [.slice none 0 0, .slice none 0 0]) 27)).drew (.cells #[] 2))) := kp0.out.alloc lz1 _
    have rI1 : Hid (World.ownsRow (World.alloc ((w.alloc (.cells (List.toArray [.slice a0 x.vSlots.length c0, .slice a1 x.vFree.length c1]) 27)).alloc (.cells (List.toArray [.slice none 0 0, .slice none 0 0]) 27)).drew (.cells #[] 2)) (w.heap.size + 2) 2 1 (.slice (some ⟨w.heap.size + 1 + 1, 0, none⟩) 0 0) 0 []) := by have h5 := row_new (T := 2) (c := 1) lz1; simpa [Hid] using h5
    refine hK.out _ _ ⟨cell_alloc hHeld.1 _, cell_alloc hHeld.2 _⟩ (fun hHeld => ?_)
    clear hK K
    refine wpAnyH_ready (rs := [0]) (by kernel_rfl) (by simp) ?_
    refine AllReadyH.cons rfl (fun K hK => ?_) AllReadyH.nil
    go_simp
    have lz2 : (w.heap.size + 2) ≤ (World.heap (World.alloc ((w.alloc (.cells (List.toArray [.slice a0 x.vSlots.length c0, .slice a1 x.vFree.length c1]) 27)).alloc (.cells (List.toArray [.slice none 0 0, .slice none 0 0]) 27)).drew (.cells #[] 2))).size := by have h5 := kp1.out.size; first | (simp; done) | (simp at h5; omega) | (simp at h5 ⊢; omega)
    have kp2 : Hid (Below (w.heap.size + 2) ((w.alloc (.cells (List.toArray [.slice a0 x.vSlots.length c0, .slice a1 x.vFree.length c1]) 27)).alloc (.cells (List.toArray [.slice none 0 0, .slice none 0 0]) 27)).drew (World.alloc (World.alloc ((w.alloc (.cells (List.toArray [.slice a0 x.vSlots.length c0, .slice a1 x.vFree.length c1]) 27)).alloc (.cells (List.toArray [.slice none 0 0, .slice none 0 0]) 27)).drew (.cells #[] 2)) (.cells #[] 63))) := kp1.out.alloc lz2 _
    have rI2 : Hid (World.ownsRow (World.alloc (World.alloc ((w.alloc (.cells (List.toArray [.slice a0 x.vSlots.length c0, .slice a1 x.vFree.length c1]) 27)).alloc (.cells (List.toArray [.slice none 0 0, .slice none 0 0]) 27)).drew (.cells #[] 2)) (.cells #[] 63)) (w.heap.size + 2) 2 1 (.slice (some ⟨w.heap.size + 1 + 1, 0, none⟩) 0 0) 0 []) := row_below rI1.out ((Below.refl _ _).alloc (Nat.le_refl _) _)
    have rS2 : Hid (World.ownsRow (World.alloc (World.alloc ((w.alloc (.cells (List.toArray [.slice a0 x.vSlots.length c0, .slice a1 x.vFree.length c1]) 27)).alloc (.cells (List.toArray [.slice none 0 0, .slice none 0 0]) 27)).drew (.cells #[] 2)) (.cells #[] 63)) (w.heap.size + 2) 63 3 (.slice (some ⟨w.heap.size + 1 + 1 + 1, 0, none⟩) 0 0) 0 []) := by have h5 := row_new (T := 63) (c := 3) lz2; simpa [Hid] using h5
    refine hK.out _ _ ⟨cell_alloc hHeld.1 _, cell_alloc hHeld.2 _⟩ (fun hHeld => ?_)
    clear hK K
    refine wpAnyH_ready (rs := [3]) (by kernel_rfl) (by simp) ?_
    refine AllReadyH.cons rfl (fun K hK => ?_) AllReadyH.nil
    have cs3 : Hid (CssAt 3 SlotAt (World.alloc (World.alloc ((w.alloc (.cells (List.toArray [.slice a0 x.vSlots.length c0, .slice a1 x.vFree.length c1]) 27)).alloc (.cells (List.toArray [.slice none 0 0, .slice none 0 0]) 27)).drew (.cells #[] 2)) (.cells #[] 63)) lo a0 x.vSlots cssS) := css_below SlotAt_stays hcS.out (Below.mono kp2.out (by omega)) hbD
    have lz3 : (w.heap.size + 2) ≤ (World.heap (World.alloc (World.alloc ((w.alloc (.cells (List.toArray [.slice a0 x.vSlots.length c0, .slice a1 x.vFree.length c1]) 27)).alloc (.cells (List.toArray [.slice none 0 0, .slice none 0 0]) 27)).drew (.cells #[] 2)) (.cells #[] 63))).size := by have h5 := kp2.out.size; first | (simp; done) | (simp at h5; omega) | (simp at h5 ⊢; omega)
    refine step_append_rows (w := (World.alloc (World.alloc ((w.alloc (.cells (List.toArray [.slice a0 x.vSlots.length c0, .slice a1 x.vFree.length c1]) 27)).alloc (.cells (List.toArray [.slice none 0 0, .slice none 0 0]) 27)).drew (.cells #[] 2)) (.cells #[] 63))) (R := SlotAt) rfl _ _ 24 rfl (w.heap.size + 2) lo 63 iS _ 32 Try.underlying24 hiS.out heS.out.1 heS.out.2.1 heS.out.2.2 rfl (by decide) (.slice (some ⟨w.heap.size + 1 + 1 + 1, 0, none⟩) 0 0) 0 [] rfl (by simp) rS2.out a0 c0 x.vSlots cssS rfl cs3.out (fun cs hcs u hu => one_of_slot hcS.out cs hcs u hu) (by unfold maxLen; omega) (by omega) lz3 ?_
    intro vS u3 ho3 hg3 hn3 hat3
    rw [Nat.zero_add, List.nil_append] at ho3
    have rS3 : Hid (World.ownsRow u3 (w.heap.size + 2) 63 3 vS x.vSlots.length cssS.flatten) := ho3
    have kp3 : Hid (Below (w.heap.size + 2) ((w.alloc (.cells (List.toArray [.slice a0 x.vSlots.length c0, .slice a1 x.vFree.length c1]) 27)).alloc (.cells (List.toArray [.slice none 0 0, .slice none 0 0]) 27)).drew u3) := kp2.out.trans ((Below.refl _ _).grown hg3 lz3 (fun b e => own_block2 rS2.out b e))
    have rI3 : Hid (World.ownsRow u3 (w.heap.size + 2) 2 1 (.slice (some ⟨w.heap.size + 1 + 1, 0, none⟩) 0 0) 0 []) := row_keep rI2.out (fun g e => hg3.block g (row_lt rI2.out g e) (fun e2 => rows_apart rI2.out rS2.out (by decide) e e2.symm))
    obtain ⟨pS, dS, rfl⟩ : ∃ a cap, vS = .slice a x.vSlots.length cap := by have h5 := row_form rS3.out; exact h5
    go_simp
    refine hK.out _ _ ⟨cell_grown hHeld.1 hg3 (by intro e; have := own_block2 rS2.out _ e; omega), cell_grown hHeld.2 hg3 (by intro e; have := own_block2 rS2.out _ e; omega)⟩ (fun hHeld => ?_)
    clear hK K
    refine wpAnyH_ready (rs := [7]) (by kernel_rfl) (by simp) ?_
    refine AllReadyH.cons rfl (fun K hK => ?_) AllReadyH.nil
    have cs4 : Hid (CssAt 1 IntAt u3 lo a1 x.vFree cssI) := css_below IntAt_stays hcI.out (Below.mono kp3.out (by omega)) hbD
    have lz4 : (w.heap.size + 2) ≤ (World.heap u3).size := by have h5 := kp3.out.size; first | (simp; done) | (simp at h5; omega) | (simp at h5 ⊢; omega)
    refine step_append_rows (w := u3) (R := IntAt) rfl _ _ 25 rfl (w.heap.size + 2) lo 2 iI _ 8 Try.underlying25 hiI.out heI.out.1 heI.out.2.1 heI.out.2.2 rfl (by decide) (.slice (some ⟨w.heap.size + 1 + 1, 0, none⟩) 0 0) 0 [] rfl (by simp) rI3.out a1 c1 x.vFree cssI rfl cs4.out (fun cs hcs u hu => one_of_int hcI.out cs hcs u hu) (by unfold maxLen; omega) (by omega) lz4 ?_
    intro vI u4 ho4 hg4 hn4 hat4
    rw [Nat.zero_add, List.nil_append] at ho4
    have rI4 : Hid (World.ownsRow u4 (w.heap.size + 2) 2 1 vI x.vFree.length cssI.flatten) := ho4
    have kp4 : Hid (Below (w.heap.size + 2) ((w.alloc (.cells (List.toArray [.slice a0 x.vSlots.length c0, .slice a1 x.vFree.length c1]) 27)).alloc (.cells (List.toArray [.slice none 0 0, .slice none 0 0]) 27)).drew u4) := kp3.out.trans ((Below.refl _ _).grown hg4 lz4 (fun b e => own_block2 rI3.out b e))
    have rS4 : Hid (World.ownsRow u4 (w.heap.size + 2) 63 3 (.slice pS x.vSlots.length dS) x.vSlots.length cssS.flatten) := row_keep rS3.out (fun g e => hg4.block g (row_lt rS3.out g e) (fun e2 => rows_apart rS3.out rI3.out (by decide) e e2.symm))
    obtain ⟨pI, dI, rfl⟩ : ∃ a cap, vI = .slice a x.vFree.length cap := by have h5 := row_form rI4.out; exact h5
    go_simp
    refine hK.out _ _ ⟨cell_grown hHeld.1 hg4 (by intro e; have := own_block2 rI3.out _ e; omega), cell_grown hHeld.2 hg4 (by intro e; have := own_block2 rI3.out _ e; omega)⟩ (fun hHeld => ?_)
    clear hK K
    refine tq (i := 8) (d := 11) ?_
    simp only [sz, ss]
    refine wpAnyH_ready (rs := [9]) (by kernel_rfl) (by simp) ?_
    refine AllReadyH.cons rfl (fun K hK => ?_) AllReadyH.nil
    have bR_ : Hid (Box u4 (w.heap.size + 1) [.slice none 0 0, .slice none 0 0] 27) := (kp4.out.block _ (by omega)).trans bR.out
    have cR0 := bR_.out.cell 0 rfl
    have cR1 := bR_.out.cell 1 rfl
    have fR := bR_.out.unfrozen
    go_simp
    refine hK.out _ _ ⟨cell_set (cell_set hHeld.1 (by omega) _) (by omega) _, cell_set (cell_set hHeld.2 (by omega) _) (by omega) _⟩ (fun hHeld => ?_)
    clear hK K
    refine wpAnyH_done (by kernel_rfl) ?_ _
    obtain ⟨fs, hS, hSl, hSo⟩ := flat_of_css (O := SlotOwn) hcS.out rS4.out (fun cs x h => slot_own h)
    obtain ⟨ffs, hI, hIl, hIo⟩ := flat_of_css (O := IntOwn) hcI.out rI4.out (fun cs x h => int_own h)
    have hans : Hid (∀ w', (∀ b, w.heap.size + 2 ≤ b → w'.heap[b]? = (World.heap u4)[b]?) → AnsA w w' [.slice pS x.vSlots.length dS, .slice pI x.vFree.length dI] x) := fun w' k => ansRows (hS.stays SlotOwn_stays (fun b q => k b (hSl b q))) (hI.stays intOwn_stays (fun b q => k b (hIl b q))) hSl hIl (by omega) (fun b q1 q2 => rows_apart rS4.out rI4.out (by decide) (hSo b q1) (hIo b q2))
    have bF : Hid (Box (putCells u4 (w.heap.size + 1) 0 [.slice pS x.vSlots.length dS, .slice pI x.vFree.length dI]) (w.heap.size + 1) [.slice pS x.vSlots.length dS, .slice pI x.vFree.length dI] 27) := (bR_.out.set _).set _
    have q0 := bF.out.cell 0 rfl
    have q1 := bF.out.cell 1 rfl
    simp only [putCells, Nat.zero_add] at q0 q1
    have hBf : Hid (Below w.heap.size w (putCells u4 (w.heap.size + 1) 0 [.slice pS x.vSlots.length dS, .slice pI x.vFree.length dI])) := putCells_below _ _ _ _ _ _ (by omega) (hbD.trans (kp4.out.mono (by omega)))
    have hkk : Hid (∀ b, w.heap.size + 2 ≤ b → (putCells u4 (w.heap.size + 1) 0 [.slice pS x.vSlots.length dS, .slice pI x.vFree.length dI]).heap[b]? = (World.heap u4)[b]?) := fun b qq => putCells_other _ _ _ _ b (by omega)
    clear hS hI hSo hIo cR0 cR1
    go_wp2_with fail
    refine bodyPost_ret (v := .agg (List.toArray [.slice pS x.vSlots.length dS, .slice pI x.vFree.length dI])) (by simp [results, Try.results33, go_sem, q0, q1]) rfl ⟨⟨[.slice pS x.vSlots.length dS, .slice pI x.vFree.length dI], rfl, hans.out _ hkk.out⟩, hBf.out⟩
end Go.Proofs.Ytcbomaflfjdmjaa
