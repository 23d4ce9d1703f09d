/- A copy of a heap: l4Copy of the specification, walked; its answer owns its memory. -/
import Derived.Test.YtdnembnlomnceaaGreatAbb
import Derived.Test.YtdnembnlomnceaaGreatTakeMore
import Derived.Test.YtdnembnlomnceaaGreatCopyNodeP
import Derived.Deep.AppendLies
import Derived.Deep.DeepCutAuto
import Derived.ProofKit
namespace Go.Proofs.YtdnembnlomnceaaGreat
open Go.RowKit Go.Deep
theorem row_new {w : World} {B T c : Nat} (hB : B ≤ w.heap.size) : (w.alloc (.cells #[] T)).ownsRow B T c (.slice (some ⟨w.heap.size, 0, none⟩) 0 0) 0 [] :=
 ⟨by simp, Or.inr ⟨_, _, #[], rfl, hB, (MapKept.heap_alloc w _).1, Nat.le_refl _, Nat.zero_le _, by simp, by simp⟩⟩
theorem step_append_rows {α : Type} {P : Program} {w : World} {ops : Array Oper} {o : Oper} {a : Act} {K : Act → World → Prop} {Q : Exit → Act → World → Prop} {E : Prop} {c : Nat} {R : World → Nat → List Value → α → Prop} (hgd : o.guard = none) (s x : Operand) (t : TypeId)
 (ho : o.op = .call { callee := .builtin .append, args := #[s, x], argTypes := #[t, t] }) (base lo : Nat) (e : TypeId) (i : TypeInfo) (z : Value) (bytes : Nat) (ht : P.underlying t = some (.slice e)) (hi : P.info? e = some i) (hz : i.zero = some z) (hsize : i.size = c) (hby : i.bytes = bytes) (hzs : z.cells.size = c) (hc : 0 < c)
 (v : Value) (n : Nat) (ys : List Value) (hs : a.eval s = v) (hv : v ≠ .slice none 0 0) (hown : w.ownsRow base e c v n ys) (ka : Option Addr) (kc : Nat) (xs : List α) (css : List (List Value)) (hx : a.eval x = .slice ka xs.length kc) (hk : CssAt c R w lo ka xs css) (hone : ∀ cs ∈ css, ∀ u ∈ cs, u.oneCell' = true) (hl : n + xs.length ≤ maxLen) (hbytes : (n + xs.length) * bytes ≤ 140737488355328) (hbase : base ≤ w.heap.size)
 (h : ∀ v' w', w'.ownsRow base e c v' (n + xs.length) (ys ++ css.flatten) → w.grownBy w' v.ownBlock → v' ≠ .slice none 0 0 → (v'.ownBlock = v.ownBlock ∨ v'.ownBlock = some w.heap.size) → K (a.put o.dst v') w') : if Region.wanted o (yielded ops a.tmps) = true then Oper.wp P o a w K Q else E := by
 have hw : Region.wanted o (yielded ops a.tmps) = true := by simp [Region.wanted, hgd]
 rw [if_pos hw]
 obtain ⟨k1, k2, k3, k4, k5⟩ := hk
 cases ka with
 | none =>
  have hks := k4 rfl
  subst hks
  have hcs : css = [] := List.eq_nil_of_length_eq_zero (by simpa using k1)
  subst hcs
  have hown' := hown
  rcases hown.2 with ⟨q, _⟩ | ⟨g, cap, cur, rfl, hg, hh, q1, q2, q3, q4⟩
  · exact absurd q hv
  · have hsrc : Src P i.size t (.slice none 0 kc) 0 [] w := Src.ofNil w ht kc
    have hrun := run_append_room_src (P := P) w t t o.type e i ht hi g 0 n cap (.slice none 0 kc) 0 [] hsrc (by omega) (by simp) (by simp)
    have hset : w.setCells g (0 + n * i.size) [] = w := rfl
    rw [hset] at hrun
    unfold Oper.wp
    simp only [List.length_nil] at hx
    simp [execOp, ho, resolve, invoke, builtin, hs, hx, hrun, Result.andThen]
    exact h _ w (by simpa using hown') ⟨rfl, rfl, rfl, Nat.le_refl _, fun _ _ _ => rfl⟩ (by simp) (Or.inl rfl)
 | some ad =>
  obtain ⟨v', w', hr, h1, h2, h3, h4⟩ := run_append_own_at (P := P) w base t o.type e i z c bytes ht hi hz hsize hby hzs hc v n ys hown ad xs.length kc css.flatten (by rw [css_len k2, k1]) (k5 ad rfl) (fun u hu => by obtain ⟨cs, hcs, hu2⟩ := List.mem_flatten.1 hu; exact hone cs hcs u hu2) hl hbytes hbase
  unfold Oper.wp execOp
  simp only [ho, resolve, invoke, builtin, Sem.run_bind, Sem.run_pure, Result.andThen_ok, List.map_toArray, List.map_cons, List.map_nil, hs, hx, hr]
  exact h v' w' h1 h2 (fun q => hv (h3.1 q).1) h4
theorem cell_alloc2 {w : World} {b i : Nat} {v : Value} (h : w.cell? ⟨b, i, none⟩ = some v) (o : Obj) : (w.alloc o).cell? ⟨b, i, none⟩ = some v := by
 rw [World.cell?_of_block (w := w) (w' := w.alloc o) (Below.heap_alloc _ _ _ (World.block_lt_of_cell? _ _ h))]; exact h
theorem cell_grown2 {w w' : World} {b i : Nat} {v : Value} {r : Option Nat} (h : w.cell? ⟨b, i, none⟩ = some v) (hg : w.grownBy w' r) (hne : r ≠ some b) : w'.cell? ⟨b, i, none⟩ = some v := by
 rw [World.cell?_of_block (w := w) (w' := w') (hg.block b (World.block_lt_of_cell? _ _ h) (fun e => hne e.symm))]; exact h
theorem row_box {w : World} {base e c n T H : Nat} {v : Value} {xs cs : List Value} (h : w.ownsRow base e c v n xs) (hb : Box w T cs H) (hne : e ≠ H) : v.ownBlock ≠ some T := by
 intro q
 rcases h.2 with ⟨rfl, _⟩ | ⟨g, cap, cur, rfl, _, hh, _⟩
 · cases q
 · simp only [Value.ownBlock, Option.some.injEq] at q
   subst q
   have e2 := hh.symm.trans hb
   injection e2 with e2
   injection e2 with _ e3
   exact hne e3
theorem own_of_mem {w : World} {base e n : Nat} {v : Value} {vs : List Value} {xs : List FieldD} {fs : List Nat} (h : w.ownsRow base e 2 v n vs) (hs : SeqOwn 2 FieldOwn w v xs fs) {b : Nat} (hb : b ∈ fs) : v.ownBlock = some b := by
 obtain ⟨a, cap, rfl, hm, hx⟩ := hs
 rcases hx with ⟨_, rfl⟩ | ⟨g, off, rfl, C, T, bss, h1, h2, h3, rfl, h5, h6⟩
 · cases hb
 · have hz : bss.flatten = [] := by
    rw [List.flatten_eq_nil_iff]
    intro l hl
    obtain ⟨i, hi, rfl⟩ := List.getElem_of_mem hl
    obtain ⟨cs, _, _, r⟩ := h6 i (by omega) hi
    exact r.2.2.2
   rw [hz] at hb
   simp at hb
   subst hb
   rcases h.2 with ⟨e, _⟩ | ⟨g', cap', cur, e, _⟩
   · cases e
   · injection e with e1
     injection e1 with e1
     injection e1 with e1 _
     subst e1
     rfl
theorem Out.far {fs : List Nat} {a b c : World} (h : Out fs a b) (k : Below a.heap.size b c) : Out fs a c :=
 ⟨k.os.trans h.1, k.tape.trans h.2.1, k.output.trans h.2.2.1, Nat.le_trans h.2.2.2.1 k.size, fun x h1 h2 => (k.block x h1).trans (h.2.2.2.2 x h1 h2)⟩
set_option maxRecDepth 100000 in
set_option maxHeartbeats 8000000 in
theorem l4CopyP_any {w : World} {lo : Nat} {cs : List Value} {x : HeapD} (hx : HeapAt w lo cs x) (hs : x.small) :
 Calls Tryz.prog 73 #[.agg cs.toArray] w fun e w' => (∃ cs', e = .returned (.agg cs'.toArray) ∧ ∃ fs, HeapP w' cs' x fs ∧ ∀ b ∈ fs, w.heap.size ≤ b) ∧ Below w.heap.size w w' := by
 obtain ⟨k2, k3, k4, rfl, s2, s3, s4, rN, rD, _⟩ := hx
 obtain ⟨a2, c2, rfl⟩ := s2.form
 obtain ⟨a3, c3, rfl⟩ := s3.form
 obtain ⟨a4, c4, rfl⟩ := s4.form
 obtain ⟨cssG, hcG0⟩ := seq_css (by decide) s4
 have hsN : Hid (SeqAt 6 NodeAt w lo (.slice a2 x.vNodes.length c2) x.vNodes) := s2
 have hsO : Hid (SeqAt 3 ObjAt w lo (.slice a3 x.vObjs.length c3) x.vObjs) := s3
 have hcG : Hid (CssAt 2 FieldAt w lo a4 x.vGlobals cssG) := hcG0
 have hrr : Hid (InI x.vNext ∧ InI x.vDoc) := ⟨rN, rD⟩
 have hl2 : x.vNodes.length ≤ 1048576 := hs.1.1
 have hl3 : x.vObjs.length ≤ 1048576 := hs.2.1.1
 have hl4 : x.vGlobals.length ≤ 1048576 := hs.2.2.1.1
 have hsm : Hid x.small := hs
 obtain ⟨iF, hF0, hF1⟩ := infoFieldC
 have hiF : Hid (Tryz.prog.info? 118 = some iF) := hF0
 have heF : Hid _ := hF1
 obtain ⟨iN, hN0, hN1⟩ := infoNodeC
 have hiN : Hid (Tryz.prog.info? 73 = some iN) := hN0
 have heN : Hid _ := hN1
 obtain ⟨iO, hO0, hO1⟩ := infoObjC
 have hiO : Hid (Tryz.prog.info? 75 = some iO) := hO0
 have heO : Hid _ := hO1
 clear s2 s3 s4 hcG0 rN rD hs hF0 hF1 hN0 hN1 hO0 hO1
 have hbA : Hid (Below w.heap.size w ((w.alloc (.cells (List.toArray (cHp x a2 c2 a3 c3 a4 c4)) 28)).alloc (.cells (List.toArray cZp) 28))) := ((Below.refl _ _).alloc (Nat.le_refl _) _).alloc (by simp) _
 have hzA : ((w.alloc (.cells (List.toArray (cHp x a2 c2 a3 c3 a4 c4)) 28)).alloc (.cells (List.toArray cZp) 28)).heap.size = w.heap.size + 2 := by simp
 have bx0 : Hid (Box ((w.alloc (.cells (List.toArray (cHp x a2 c2 a3 c3 a4 c4)) 28)).alloc (.cells (List.toArray cZp) 28)) w.heap.size (cHp x a2 c2 a3 c3 a4 c4) 28) := (Box.new w _ _).alloc _
 have bz0 : Hid (Box ((w.alloc (.cells (List.toArray (cHp x a2 c2 a3 c3 a4 c4)) 28)).alloc (.cells (List.toArray cZp) 28)) (w.heap.size + 1) cZp 28) := by have h5 := Box.new (w.alloc (.cells (List.toArray (cHp x a2 c2 a3 c3 a4 c4)) 28)) cZp 28; simp only [World.size_alloc] at h5; exact h5
 go_enter Tryz.func73, Tryz.ntmps73
 go_upto_region 1 with fail
 generalize ((w.alloc (.cells (List.toArray (cHp x a2 c2 a3 c3 a4 c4)) 28)).alloc (.cells (List.toArray cZp) 28)) = wa at hbA hzA bx0 bz0 ⊢
 have kp0 : Hid (Below (w.heap.size + 2) wa.drew wa.drew) := Below.refl _ _
 go_cut [3] (fun sP wx => ∃ (T : Nat) (p4 : Option Addr) (d4 : Nat), sP = .pointer (some ⟨T, 0, none⟩) ∧ Hid (Below (w.heap.size + 2) wa wx) ∧ (w.heap.size + 2) ≤ T ∧ Hid (Box wx T [.int .i64 x.vNext, .int .i64 x.vDoc, .slice none 0 0, .slice none 0 0, .slice p4 x.vGlobals.length d4] 28) ∧ Hid (∃ f4, SeqOwn 2 FieldOwn wx (.slice p4 x.vGlobals.length d4) x.vGlobals f4 ∧ ∀ b ∈ f4, (w.heap.size + 2) ≤ b ∧ b ≠ T))
 case first =>
  have hzz := hzA
  refine wp_region_held_drew (S := fun w' => w'.cell? ⟨w.heap.size, 0, none⟩ = some (.int .i64 x.vNext) ∧ w'.cell? ⟨w.heap.size, 1, none⟩ = some (.int .i64 x.vDoc) ∧ w'.cell? ⟨w.heap.size, 4, none⟩ = some (.slice a4 x.vGlobals.length c4)) (by kernel_rfl) ⟨bx0.out.cell 0 rfl, bx0.out.cell 1 rfl, bx0.out.cell 4 rfl⟩ (fun hHeld => ?_)
  refine tk 0 ?_
  refine tk 1 ?_
  refine tk 2 ?_
  refine tk 3 ?_
  refine tk 5 ?_
  refine tk 6 ?_
  refine rd2 4 9 (fun K hK => ?_) (fun K hK => ?_)
  · go_simp
    have lz1 : (w.heap.size + 2) ≤ (World.heap wa.drew).size := by have h5 := kp0.out.size; first | (simp; done) | (simp at h5; omega) | (simp at h5 ⊢; omega)
    have kp1 : Hid (Below (w.heap.size + 2) wa.drew (World.alloc wa.drew (.cells #[] 118))) := kp0.out.alloc lz1 _
    have rw1 : Hid (World.ownsRow (World.alloc wa.drew (.cells #[] 118)) (w.heap.size + 2) 118 2 (.slice (some ⟨w.heap.size + 1 + 1, 0, none⟩) 0 0) 0 []) := by have h5 := row_new (T := 118) (c := 2) lz1; simpa [Hid, hzA] using h5
    refine hK.out _ _ ⟨cell_alloc2 hHeld.1 _, cell_alloc2 hHeld.2.1 _, cell_alloc2 hHeld.2.2 _⟩ (fun hHeld => ?_)
    clear hK K
    refine rd2 7 9 (fun K hK => ?_) (fun K hK => ?_)
    · have lz2 : (w.heap.size + 2) ≤ (World.heap (World.alloc wa.drew (.cells #[] 118))).size := by have h5 := kp1.out.size; first | (simp; done) | (simp at h5; omega) | (simp at h5 ⊢; omega)
      have cg2 : Hid (CssAt 2 (fun _ => FieldAt w) (World.alloc wa.drew (.cells #[] 118)) lo a4 x.vGlobals cssG) := hcG.out.on (hbA.out.trans (Below.mono (Below.trans (Below.drew (Below.refl _ _)) kp1.out) (by omega)))
      refine step_append_rows (w := (World.alloc wa.drew (.cells #[] 118))) (R := fun _ => FieldAt w) rfl _ _ 26 rfl (w.heap.size + 2) lo 118 iF _ 24 Tryz.underlying26 hiF.out heF.out.1 heF.out.2.1 heF.out.2.2 rfl (by decide) (.slice (some ⟨w.heap.size + 1 + 1, 0, none⟩) 0 0) 0 [] rfl (by simp) rw1.out a4 c4 x.vGlobals cssG rfl cg2.out (Field_css cg2.out) (by unfold maxLen; omega) (by omega) lz2 ?_
      intro v4 u2 ho2 hg2 hn2 hat2
      rw [Nat.zero_add, List.nil_append] at ho2
      have rw2 : Hid (World.ownsRow u2 (w.heap.size + 2) 118 2 v4 x.vGlobals.length cssG.flatten) := ho2
      have kp2 : Hid (Below (w.heap.size + 2) wa.drew u2) := kp1.out.trans ((Below.refl _ _).grown hg2 lz2 (fun b e => own_block2 rw1.out b e))
      obtain ⟨p4, d4, rfl⟩ : ∃ a cap, v4 = .slice a x.vGlobals.length cap := row_form2 ho2
      clear ho2
      go_simp
      refine hK.out _ _ ⟨cell_grown2 hHeld.1 hg2 (by intro e; have := own_block2 rw1.out _ e; omega), cell_grown2 hHeld.2.1 hg2 (by intro e; have := own_block2 rw1.out _ e; omega), cell_grown2 hHeld.2.2 hg2 (by intro e; have := own_block2 rw1.out _ e; omega)⟩ (fun hHeld => ?_)
      clear hK K
      refine tk 8 ?_
      refine rd1 9 (fun K hK => ?_)
      have hPre : Hid _ := hHeld
      go_simp
      have lz3 : (w.heap.size + 2) ≤ (World.heap u2).size := by have h5 := kp2.out.size; first | (simp; done) | (simp at h5; omega) | (simp at h5 ⊢; omega)
      have kp3 : Hid (Below (w.heap.size + 2) wa.drew (World.alloc u2 (.cells (List.toArray cZp) 28))) := kp2.out.alloc lz3 _
      have bT3 : Hid (Box (World.alloc u2 (.cells (List.toArray cZp) 28)) (u2.heap.size) cZp 28) := by have h5 := Box.new u2 cZp 28; simpa [Hid, hzA] using h5
      have rw3 : Hid (World.ownsRow (World.alloc u2 (.cells (List.toArray cZp) 28)) (w.heap.size + 2) 118 2 (.slice p4 x.vGlobals.length d4) x.vGlobals.length cssG.flatten) := row_below rw2.out ((Below.refl _ _).alloc (Nat.le_refl _) _)
      refine hK.out _ _ ⟨cell_alloc2 hHeld.1 _, cell_alloc2 hHeld.2.1 _, cell_alloc2 hHeld.2.2 _⟩ (fun hHeld => ?_)
      clear hK K
      refine rd1 10 (fun K hK => ?_)
      have hTl : (w.heap.size + 2) ≤ u2.heap.size := lz3
      obtain ⟨cT0, cT1, cT2, cT3, cT4⟩ := fv5 bT3.out
      have fT := bT3.out.unfrozen
      go_simp
      refine hK.out _ _ ⟨cell_alloc2 hPre.out.1 _, cell_alloc2 hPre.out.2.1 _, cell_alloc2 hPre.out.2.2 _⟩ (fun hHeld => ?_)
      clear hK K
      refine wpAnyH_done (by kernel_rfl) ?_ _
      have bF : Hid (Box (World.alloc u2 (.cells (List.toArray [.int .i64 x.vNext, .int .i64 x.vDoc, .slice none 0 0, .slice none 0 0, .slice p4 x.vGlobals.length d4]) 28)) (u2.heap.size) [.int .i64 x.vNext, .int .i64 x.vDoc, .slice none 0 0, .slice none 0 0, .slice p4 x.vGlobals.length d4] 28) := Box.new _ _ _
      have kF : Hid (Below (w.heap.size + 2) wa (World.alloc u2 (.cells (List.toArray [.int .i64 x.vNext, .int .i64 x.vDoc, .slice none 0 0, .slice none 0 0, .slice p4 x.vGlobals.length d4]) 28))) := (Below.trans (Below.drew (Below.refl _ _)) kp2.out).alloc lz3 _
      have hG : Hid (∃ f4, SeqOwn 2 FieldOwn (World.alloc u2 (.cells (List.toArray [.int .i64 x.vNext, .int .i64 x.vDoc, .slice none 0 0, .slice none 0 0, .slice p4 x.vGlobals.length d4]) 28)) (.slice p4 x.vGlobals.length d4) x.vGlobals f4 ∧ ∀ b ∈ f4, (w.heap.size + 2) ≤ b ∧ b ≠ u2.heap.size) := by
       have r4 : World.ownsRow (World.alloc u2 (.cells (List.toArray [.int .i64 x.vNext, .int .i64 x.vDoc, .slice none 0 0, .slice none 0 0, .slice p4 x.vGlobals.length d4]) 28)) (w.heap.size + 2) 118 2 (.slice p4 x.vGlobals.length d4) x.vGlobals.length cssG.flatten := row_below rw2.out ((Below.refl _ _).alloc (Nat.le_refl _) _)
       obtain ⟨f4, q4, lo4⟩ := seqOwn_of_css (O := FieldOwn) hcG.out r4 (fun cs y => field_own2 cs y)
       exact ⟨f4, q4, fun b qq => ⟨lo4 b qq, fun e => by have := row_lt rw2.out b (own_of_mem r4 q4 qq); omega⟩⟩
      clear cT0 cT1 cT2 cT3 cT4 fT hHeld hPre
      go_wp2_with fail
      go_meet
      exact ⟨_, p4, d4, rfl, kF, hTl, bF, hG⟩
    · have hPre : Hid _ := hHeld
      go_simp
      have lz2 : (w.heap.size + 2) ≤ (World.heap (World.alloc wa.drew (.cells #[] 118))).size := by have h5 := kp1.out.size; first | (simp; done) | (simp at h5; omega) | (simp at h5 ⊢; omega)
      have kp2 : Hid (Below (w.heap.size + 2) wa.drew (World.alloc (World.alloc wa.drew (.cells #[] 118)) (.cells (List.toArray cZp) 28))) := kp1.out.alloc lz2 _
      have bT2 : Hid (Box (World.alloc (World.alloc wa.drew (.cells #[] 118)) (.cells (List.toArray cZp) 28)) (w.heap.size + 1 + 1 + 1) cZp 28) := by have h5 := Box.new (World.alloc wa.drew (.cells #[] 118)) cZp 28; simpa [Hid, hzA] using h5
      have rw2 : Hid (World.ownsRow (World.alloc (World.alloc wa.drew (.cells #[] 118)) (.cells (List.toArray cZp) 28)) (w.heap.size + 2) 118 2 (.slice (some ⟨w.heap.size + 1 + 1, 0, none⟩) 0 0) 0 []) := row_below rw1.out ((Below.refl _ _).alloc (Nat.le_refl _) _)
      refine hK.out _ _ ⟨cell_alloc2 hHeld.1 _, cell_alloc2 hHeld.2.1 _, cell_alloc2 hHeld.2.2 _⟩ (fun hHeld => ?_)
      clear hK K
      refine rd1 7 (fun K hK => ?_)
      have lz3 : (w.heap.size + 2) ≤ (World.heap (World.alloc (World.alloc wa.drew (.cells #[] 118)) (.cells (List.toArray cZp) 28))).size := by have h5 := kp2.out.size; first | (simp; done) | (simp at h5; omega) | (simp at h5 ⊢; omega)
      have cg3 : Hid (CssAt 2 (fun _ => FieldAt w) (World.alloc (World.alloc wa.drew (.cells #[] 118)) (.cells (List.toArray cZp) 28)) lo a4 x.vGlobals cssG) := hcG.out.on (hbA.out.trans (Below.mono (Below.trans (Below.drew (Below.refl _ _)) kp2.out) (by omega)))
      refine step_append_rows (w := (World.alloc (World.alloc wa.drew (.cells #[] 118)) (.cells (List.toArray cZp) 28))) (R := fun _ => FieldAt w) rfl _ _ 26 rfl (w.heap.size + 2) lo 118 iF _ 24 Tryz.underlying26 hiF.out heF.out.1 heF.out.2.1 heF.out.2.2 rfl (by decide) (.slice (some ⟨w.heap.size + 1 + 1, 0, none⟩) 0 0) 0 [] rfl (by simp) rw2.out a4 c4 x.vGlobals cssG rfl cg3.out (Field_css cg3.out) (by unfold maxLen; omega) (by omega) lz3 ?_
      intro v4 u3 ho3 hg3 hn3 hat3
      rw [Nat.zero_add, List.nil_append] at ho3
      have rw3 : Hid (World.ownsRow u3 (w.heap.size + 2) 118 2 v4 x.vGlobals.length cssG.flatten) := ho3
      have kp3 : Hid (Below (w.heap.size + 2) wa.drew u3) := kp2.out.trans ((Below.refl _ _).grown hg3 lz3 (fun b e => own_block2 rw2.out b e))
      have bT3 : Hid (Box u3 (w.heap.size + 1 + 1 + 1) cZp 28) := (hg3.block _ bT2.out.lt (fun e => by simp [Value.ownBlock] at e)).trans bT2.out
      obtain ⟨p4, d4, rfl⟩ : ∃ a cap, v4 = .slice a x.vGlobals.length cap := row_form2 ho3
      clear ho3
      go_simp
      refine hK.out _ _ ⟨cell_grown2 hHeld.1 hg3 (by intro e; have := own_block2 rw2.out _ e; omega), cell_grown2 hHeld.2.1 hg3 (by intro e; have := own_block2 rw2.out _ e; omega), cell_grown2 hHeld.2.2 hg3 (by intro e; have := own_block2 rw2.out _ e; omega)⟩ (fun hHeld => ?_)
      clear hK K
      refine tk 8 ?_
      refine rd1 10 (fun K hK => ?_)
      have hTl : (w.heap.size + 2) ≤ w.heap.size + 1 + 1 + 1 := by first | omega | (have h5 := kp3.out.size; simp at h5; omega)
      obtain ⟨cT0, cT1, cT2, cT3, cT4⟩ := fv5 bT3.out
      have fT := bT3.out.unfrozen
      go_simp
      refine hK.out _ _ ⟨cell_set (cell_set (cell_set (cell_set (cell_set hHeld.1 (by omega) _) (by omega) _) (by omega) _) (by omega) _) (by omega) _, cell_set (cell_set (cell_set (cell_set (cell_set hHeld.2.1 (by omega) _) (by omega) _) (by omega) _) (by omega) _) (by omega) _, cell_set (cell_set (cell_set (cell_set (cell_set hHeld.2.2 (by omega) _) (by omega) _) (by omega) _) (by omega) _) (by omega) _⟩ (fun hHeld => ?_)
      clear hK K
      refine wpAnyH_done (by kernel_rfl) ?_ _
      have bF : Hid (Box (putCells u3 (w.heap.size + 1 + 1 + 1) 0 [.int .i64 x.vNext, .int .i64 x.vDoc, .slice none 0 0, .slice none 0 0, .slice p4 x.vGlobals.length d4]) (w.heap.size + 1 + 1 + 1) [.int .i64 x.vNext, .int .i64 x.vDoc, .slice none 0 0, .slice none 0 0, .slice p4 x.vGlobals.length d4] 28) := (((((bT3.out.set (i := 0) _).set (i := 1) _).set (i := 2) _).set (i := 3) _).set (i := 4) _)
      have kF : Hid (Below (w.heap.size + 2) wa (putCells u3 (w.heap.size + 1 + 1 + 1) 0 [.int .i64 x.vNext, .int .i64 x.vDoc, .slice none 0 0, .slice none 0 0, .slice p4 x.vGlobals.length d4])) := putCells_below _ _ _ _ _ _ hTl (Below.trans (Below.drew (Below.refl _ _)) kp3.out)
      have hG : Hid (∃ f4, SeqOwn 2 FieldOwn (putCells u3 (w.heap.size + 1 + 1 + 1) 0 [.int .i64 x.vNext, .int .i64 x.vDoc, .slice none 0 0, .slice none 0 0, .slice p4 x.vGlobals.length d4]) (.slice p4 x.vGlobals.length d4) x.vGlobals f4 ∧ ∀ b ∈ f4, (w.heap.size + 2) ≤ b ∧ b ≠ w.heap.size + 1 + 1 + 1) := by
       have hne := row_box rw3.out bT3.out (by decide)
       have r4 : World.ownsRow (putCells u3 (w.heap.size + 1 + 1 + 1) 0 [.int .i64 x.vNext, .int .i64 x.vDoc, .slice none 0 0, .slice none 0 0, .slice p4 x.vGlobals.length d4]) (w.heap.size + 2) 118 2 (.slice p4 x.vGlobals.length d4) x.vGlobals.length cssG.flatten := row_keep2 rw3.out (fun k e => putCells_other _ _ _ _ _ (fun e2 => hne (by rw [e, e2])))
       obtain ⟨f4, q4, lo4⟩ := seqOwn_of_css (O := FieldOwn) hcG.out r4 (fun cs y => field_own2 cs y)
       exact ⟨f4, q4, fun b qq => ⟨lo4 b qq, fun e => hne (by rw [← e]; exact own_of_mem r4 q4 qq)⟩⟩
      clear cT0 cT1 cT2 cT3 cT4 fT hHeld
      go_wp2_with fail
      go_meet
      exact ⟨_, p4, d4, rfl, kF, hTl, bF, hG⟩
  · have hPre : Hid _ := hHeld
    go_simp
    have lz1 : (w.heap.size + 2) ≤ (World.heap wa.drew).size := by have h5 := kp0.out.size; first | (simp; done) | (simp at h5; omega) | (simp at h5 ⊢; omega)
    have kp1 : Hid (Below (w.heap.size + 2) wa.drew (World.alloc wa.drew (.cells (List.toArray cZp) 28))) := kp0.out.alloc lz1 _
    have bT1 : Hid (Box (World.alloc wa.drew (.cells (List.toArray cZp) 28)) (w.heap.size + 1 + 1) cZp 28) := by have h5 := Box.new wa.drew cZp 28; simpa [Hid, hzA] using h5
    refine hK.out _ _ ⟨cell_alloc2 hHeld.1 _, cell_alloc2 hHeld.2.1 _, cell_alloc2 hHeld.2.2 _⟩ (fun hHeld => ?_)
    clear hK K
    refine rd1 4 (fun K hK => ?_)
    go_simp
    have lz2 : (w.heap.size + 2) ≤ (World.heap (World.alloc wa.drew (.cells (List.toArray cZp) 28))).size := by have h5 := kp1.out.size; first | (simp; done) | (simp at h5; omega) | (simp at h5 ⊢; omega)
    have kp2 : Hid (Below (w.heap.size + 2) wa.drew (World.alloc (World.alloc wa.drew (.cells (List.toArray cZp) 28)) (.cells #[] 118))) := kp1.out.alloc lz2 _
    have rw2 : Hid (World.ownsRow (World.alloc (World.alloc wa.drew (.cells (List.toArray cZp) 28)) (.cells #[] 118)) (w.heap.size + 2) 118 2 (.slice (some ⟨w.heap.size + 1 + 1 + 1, 0, none⟩) 0 0) 0 []) := by have h5 := row_new (T := 118) (c := 2) lz2; simpa [Hid, hzA] using h5
    have bT2 : Hid (Box (World.alloc (World.alloc wa.drew (.cells (List.toArray cZp) 28)) (.cells #[] 118)) (w.heap.size + 1 + 1) cZp 28) := bT1.out.alloc _
    refine hK.out _ _ ⟨cell_alloc2 hHeld.1 _, cell_alloc2 hHeld.2.1 _, cell_alloc2 hHeld.2.2 _⟩ (fun hHeld => ?_)
    clear hK K
    refine rd1 7 (fun K hK => ?_)
    have lz3 : (w.heap.size + 2) ≤ (World.heap (World.alloc (World.alloc wa.drew (.cells (List.toArray cZp) 28)) (.cells #[] 118))).size := by have h5 := kp2.out.size; first | (simp; done) | (simp at h5; omega) | (simp at h5 ⊢; omega)
    have cg3 : Hid (CssAt 2 (fun _ => FieldAt w) (World.alloc (World.alloc wa.drew (.cells (List.toArray cZp) 28)) (.cells #[] 118)) lo a4 x.vGlobals cssG) := hcG.out.on (hbA.out.trans (Below.mono (Below.trans (Below.drew (Below.refl _ _)) kp2.out) (by omega)))
    refine step_append_rows (w := (World.alloc (World.alloc wa.drew (.cells (List.toArray cZp) 28)) (.cells #[] 118))) (R := fun _ => FieldAt w) rfl _ _ 26 rfl (w.heap.size + 2) lo 118 iF _ 24 Tryz.underlying26 hiF.out heF.out.1 heF.out.2.1 heF.out.2.2 rfl (by decide) (.slice (some ⟨w.heap.size + 1 + 1 + 1, 0, none⟩) 0 0) 0 [] rfl (by simp) rw2.out a4 c4 x.vGlobals cssG rfl cg3.out (Field_css cg3.out) (by unfold maxLen; omega) (by omega) lz3 ?_
    intro v4 u3 ho3 hg3 hn3 hat3
    rw [Nat.zero_add, List.nil_append] at ho3
    have rw3 : Hid (World.ownsRow u3 (w.heap.size + 2) 118 2 v4 x.vGlobals.length cssG.flatten) := ho3
    have kp3 : Hid (Below (w.heap.size + 2) wa.drew u3) := kp2.out.trans ((Below.refl _ _).grown hg3 lz3 (fun b e => own_block2 rw2.out b e))
    have bT3 : Hid (Box u3 (w.heap.size + 1 + 1) cZp 28) := (hg3.block _ bT2.out.lt (fun e => by simp [Value.ownBlock] at e)).trans bT2.out
    obtain ⟨p4, d4, rfl⟩ : ∃ a cap, v4 = .slice a x.vGlobals.length cap := row_form2 ho3
    clear ho3
    go_simp
    refine hK.out _ _ ⟨cell_grown2 hHeld.1 hg3 (by intro e; have := own_block2 rw2.out _ e; omega), cell_grown2 hHeld.2.1 hg3 (by intro e; have := own_block2 rw2.out _ e; omega), cell_grown2 hHeld.2.2 hg3 (by intro e; have := own_block2 rw2.out _ e; omega)⟩ (fun hHeld => ?_)
    clear hK K
    refine tk 8 ?_
    refine rd1 10 (fun K hK => ?_)
    have hTl : (w.heap.size + 2) ≤ w.heap.size + 1 + 1 := by first | omega | (have h5 := kp3.out.size; simp at h5; omega)
    obtain ⟨cT0, cT1, cT2, cT3, cT4⟩ := fv5 bT3.out
    have fT := bT3.out.unfrozen
    go_simp
    refine hK.out _ _ ⟨cell_set (cell_set (cell_set (cell_set (cell_set hHeld.1 (by omega) _) (by omega) _) (by omega) _) (by omega) _) (by omega) _, cell_set (cell_set (cell_set (cell_set (cell_set hHeld.2.1 (by omega) _) (by omega) _) (by omega) _) (by omega) _) (by omega) _, cell_set (cell_set (cell_set (cell_set (cell_set hHeld.2.2 (by omega) _) (by omega) _) (by omega) _) (by omega) _) (by omega) _⟩ (fun hHeld => ?_)
    clear hK K
    refine wpAnyH_done (by kernel_rfl) ?_ _
    have bF : Hid (Box (putCells u3 (w.heap.size + 1 + 1) 0 [.int .i64 x.vNext, .int .i64 x.vDoc, .slice none 0 0, .slice none 0 0, .slice p4 x.vGlobals.length d4]) (w.heap.size + 1 + 1) [.int .i64 x.vNext, .int .i64 x.vDoc, .slice none 0 0, .slice none 0 0, .slice p4 x.vGlobals.length d4] 28) := (((((bT3.out.set (i := 0) _).set (i := 1) _).set (i := 2) _).set (i := 3) _).set (i := 4) _)
    have kF : Hid (Below (w.heap.size + 2) wa (putCells u3 (w.heap.size + 1 + 1) 0 [.int .i64 x.vNext, .int .i64 x.vDoc, .slice none 0 0, .slice none 0 0, .slice p4 x.vGlobals.length d4])) := putCells_below _ _ _ _ _ _ hTl (Below.trans (Below.drew (Below.refl _ _)) kp3.out)
    have hG : Hid (∃ f4, SeqOwn 2 FieldOwn (putCells u3 (w.heap.size + 1 + 1) 0 [.int .i64 x.vNext, .int .i64 x.vDoc, .slice none 0 0, .slice none 0 0, .slice p4 x.vGlobals.length d4]) (.slice p4 x.vGlobals.length d4) x.vGlobals f4 ∧ ∀ b ∈ f4, (w.heap.size + 2) ≤ b ∧ b ≠ w.heap.size + 1 + 1) := by
     have hne := row_box rw3.out bT3.out (by decide)
     have r4 : World.ownsRow (putCells u3 (w.heap.size + 1 + 1) 0 [.int .i64 x.vNext, .int .i64 x.vDoc, .slice none 0 0, .slice none 0 0, .slice p4 x.vGlobals.length d4]) (w.heap.size + 2) 118 2 (.slice p4 x.vGlobals.length d4) x.vGlobals.length cssG.flatten := row_keep2 rw3.out (fun k e => putCells_other _ _ _ _ _ (fun e2 => hne (by rw [e, e2])))
     obtain ⟨f4, q4, lo4⟩ := seqOwn_of_css (O := FieldOwn) hcG.out r4 (fun cs y => field_own2 cs y)
     exact ⟨f4, q4, fun b qq => ⟨lo4 b qq, fun e => hne (by rw [← e]; exact own_of_mem r4 q4 qq)⟩⟩
    clear cT0 cT1 cT2 cT3 cT4 fT hHeld
    go_wp2_with fail
    go_meet
    exact ⟨_, p4, d4, rfl, kF, hTl, bF, hG⟩
 case rest =>
  obtain ⟨T, p4, d4, rfl, hkc, hTb, bTc, hG⟩ := hcut
  obtain ⟨f4, hsG0, hloG0⟩ := hG.out
  have hsG : Hid (SeqOwn 2 FieldOwn wc (.slice p4 x.vGlobals.length d4) x.vGlobals f4) := hsG0
  have hloG : Hid (∀ b ∈ f4, (w.heap.size + 2) ≤ b ∧ b ≠ T) := hloG0
  have hzc : w.heap.size + 2 ≤ wc.heap.size := by have := hkc.out.size; rw [hzA] at this; exact this
  have hTc : T < wc.heap.size := bTc.out.lt
  have bxc : Hid (Box wc w.heap.size (cHp x a2 c2 a3 c3 a4 c4) 28) := bx0.out.below hkc.out (by omega)
  have bzc : Hid (Box wc (w.heap.size + 1) cZp 28) := bz0.out.below hkc.out (by omega)
  have hwc : Hid (Below w.heap.size w wc) := hbA.out.trans (hkc.out.mono (by omega))
  clear hG hsG0 hloG0 bx0 bz0 kp0 hkc hbA hzA
  go_wp2_with fail
  go_loopw [4] (fun i wr => ∃ (j : Nat) (av : Option Addr) (cv : Nat) (bss : List (List Nat)) (css : List (List Value)), j ≤ x.vNodes.length ∧ i = .int .i64 j ∧ Hid (GrowOwn 73 6 NodeP wc.heap.size wr (.slice av j cv) (x.vNodes.take j) bss css) ∧ Hid (Box wr T [.int .i64 x.vNext, .int .i64 x.vDoc, .slice av j cv, .slice none 0 0, .slice p4 x.vGlobals.length d4] 28) ∧ Hid (Out [T] wc wr)) (fun i _ => x.vNodes.length - (intOf i).toNat)
  case atStart => exact ⟨0, none, 0, [], [], by omega, rfl, GrowOwn.nil, bTc, Out.refl _ _⟩
  case round =>
   obtain ⟨j, av, cv, bss, css, hj, rfl, hgr, bTr, hout⟩ := hrel
   have hzr : wc.heap.size ≤ wr.heap.size := hout.out.2.2.2.1
   have bxr : Hid (Box wr w.heap.size (cHp x a2 c2 a3 c3 a4 c4) 28) := (hout.out.keep bxc.out.lt (by simp; omega)).trans bxc.out
   have bzr : Hid (Box wr (w.heap.size + 1) cZp 28) := (hout.out.keep bzc.out.lt (by simp; omega)).trans bzc.out
   have hwr : Hid (Below w.heap.size w wr) := hwc.out.trans (hout.out.below (by omega) (by simp; omega))
   have hlenj : Hid ((x.vNodes.take j).length = j) := by show _ = _; simp; omega
   by_cases hlt : j < x.vNodes.length
   · obtain ⟨a_, cap_, e_, _, hc_⟩ := hsN.out
     injection e_ with e1 e2 e3
     subst e1 e3
     obtain ⟨bn, on, rfl, _, hbn, hc⟩ := hc_ (by omega)
     obtain ⟨cs, hcl, lie, hXr⟩ := hc j hlt
     have htk : Hid (x.vNodes.take (j + 1) = x.vNodes.take j ++ [x.vNodes[j]]) := List.take_succ_eq_append_getElem hlt
     have hsX : Hid (NodeD.small x.vNodes[j]) := hsm.out.1.2 j hlt
     generalize x.vNodes[j] = X at hXr htk hsX
     have hXat : Hid (NodeAt w lo cs X) := hXr
     obtain ⟨k3, k5, rfl, q3, q5, _⟩ := hXr
     obtain ⟨a7, c7, rfl⟩ := q3.form
     obtain ⟨a8, c8, rfl⟩ := q5.form
     have hcell : ∀ m v, (cNd X a7 c7 a8 c8)[m]? = some v → wr.cell? ⟨bn, on + j * 6 + m, none⟩ = some v := fun m v e => cell_on hwr.out (by have hm : m < 6 := (by rcases Nat.lt_or_ge m 6 with r | r; (exact r); (rw [List.getElem?_eq_none (by simpa using r)] at e; cases e)); have h5 := lie m (by simpa using hm); rw [h5]; exact e)
     have z0 := hcell 0 _ rfl
     have z1 := hcell 1 _ rfl
     have z2 := hcell 2 _ rfl
     have z3 := hcell 3 _ rfl
     have z4 := hcell 4 _ rfl
     have z5 := hcell 5 _ rfl
     simp only [Nat.add_zero] at z0
     have cA2 := bxr.out.cell 2 rfl
     have hgr' : Hid (GrowOwn 73 6 NodeP wc.heap.size wr (.slice av j cv) (x.vNodes.take j) bss css) := hgr
     have hlt' : (j : Int) < (x.vNodes.length : Int) := by omega
     have hj0 : (0 : Int) ≤ (j : Int) := by omega
     clear hcell lie hcl hc hc_ q3 q5 e2 hgr
     go_wp2_with fail
     refine wp_region_held_drew (S := fun w' => w'.cell? ⟨w.heap.size, 2, none⟩ = some (.slice (some ⟨bn, on, none⟩) x.vNodes.length c2) ∧ w'.cell? ⟨bn, on + j * 6, none⟩ = some (.int .i64 X.vId) ∧ w'.cell? ⟨bn, on + j * 6 + 1, none⟩ = some (.string X.vTag) ∧ w'.cell? ⟨bn, on + j * 6 + 2, none⟩ = some (.int .i64 X.vParent) ∧ w'.cell? ⟨bn, on + j * 6 + 3, none⟩ = some (.slice a7 X.vKids.length c7) ∧ w'.cell? ⟨bn, on + j * 6 + 4, none⟩ = some (.int .i64 X.vWrapper) ∧ w'.cell? ⟨bn, on + j * 6 + 5, none⟩ = some (.slice a8 X.vListeners.length c8)) (by kernel_rfl) ⟨cA2, z0, z1, z2, z3, z4, z5⟩ (fun hHeld => ?_)
     refine tk 0 ?_
     refine tk 2 ?_
     refine tk 3 ?_
     refine tk 4 ?_
     refine tk 5 ?_
     refine tk 6 ?_
     refine rd2 1 7 (fun K hK => ?_) (fun K hK => ?_)
     · have cT : wr.drew.cell? ⟨T, 2, none⟩ = some (.slice av j cv) := bTr.out.cell 2 rfl
       go_simp
       clear cT
       refine hK.out _ _ hHeld (fun hHeld => ?_)
       clear hK K
       refine rd1 7 (fun K hK => ?_)
       go_simp
       refine (l4CopyNodeP_any (by exact NodeAt_stays _ _ _ lo _ _ (.of_below hwr.out.drew) hXat.out) hsX.out).mono ?_
       rintro e u1 ⟨⟨cs1, fs1, rfl, ho1, nd1, lo1⟩, hq1⟩
       have hu1 : Hid (Below wr.heap.size wr u1) := undrew hq1
       have hi1 : Hid (∀ b ∈ fs1, b < u1.heap.size) := NodeP_lt _ _ _ _ ho1
       have lo1' : Hid (∀ b ∈ fs1, wr.heap.size ≤ b) := fun b qq => by have := lo1 b qq; simpa using this
       have ho1' : Hid (NodeP u1 cs1 X fs1) := ho1
       have nd1' : Hid fs1.Nodup := nd1
       obtain ⟨m3, m5, _, _, rfl, q3, q5, _⟩ := NodeP.own ho1
       obtain ⟨p3, d3, rfl⟩ := q3.form
       obtain ⟨p5, d5, rfl⟩ := q5.form
       have bT1 : Hid (Box u1 T [.int .i64 x.vNext, .int .i64 x.vDoc, .slice av j cv, .slice none 0 0, .slice p4 x.vGlobals.length d4] 28) := bTr.out.below hu1.out bTr.out.lt
       clear q3 q5 lo1 nd1
       refine hK.out _ _ ⟨cell_on hq1 hHeld.1, cell_on hq1 hHeld.2.1, cell_on hq1 hHeld.2.2.1, cell_on hq1 hHeld.2.2.2.1, cell_on hq1 hHeld.2.2.2.2.1, cell_on hq1 hHeld.2.2.2.2.2.1, cell_on hq1 hHeld.2.2.2.2.2.2⟩ (fun hHeld => ?_)
       clear hK K
       refine rd1 8 (fun K hK => ?_)
       have bT2 : Hid (Box (u1.alloc (.cells (List.toArray (cNd X p3 d3 p5 d5)) 73)) T [.int .i64 x.vNext, .int .i64 x.vDoc, .slice av j cv, .slice none 0 0, .slice p4 x.vGlobals.length d4] 28) := bT1.out.alloc _
       have nb : Hid (Box (u1.alloc (.cells (List.toArray (cNd X p3 d3 p5 d5)) 73)) u1.heap.size (cNd X p3 d3 p5 d5) 73) := Box.new u1 _ _
       go_simp
       refine hK.out _ _ ⟨cell_alloc2 hHeld.1 _, cell_alloc2 hHeld.2.1 _, cell_alloc2 hHeld.2.2.1 _, cell_alloc2 hHeld.2.2.2.1 _, cell_alloc2 hHeld.2.2.2.2.1 _, cell_alloc2 hHeld.2.2.2.2.2.1 _, cell_alloc2 hHeld.2.2.2.2.2.2 _⟩ (fun hHeld => ?_)
       clear hK K
       refine rd1 9 (fun K hK => ?_)
       refine step_append_lies (u1.alloc (.cells (List.toArray (cNd X p3 d3 p5 d5)) 73)) rfl _ _ 24 rfl wc.heap.size 73 iN _ 6 88 Tryz.underlying24 hiN.out heN.out.1 heN.out.2.1 heN.out.2.2 rfl (by decide) (.slice av j cv) j css.flatten rfl (by have h5 := row_below hgr'.out.2.2.2.1 (hu1.out.alloc hu1.out.size (.cells (List.toArray (cNd X p3 d3 p5 d5)) 73)); rw [hlenj.out] at h5; exact h5) ⟨u1.heap.size, 0, none⟩ 1 1 (cNd X p3 d3 p5 d5) rfl rfl (by intro i u hu; match i, hu with | 0, hu => (simp at hu; subst hu; simp [Addr.add]) | 1, hu => (simp at hu; subst hu; simp [Addr.add]) | 2, hu => (simp at hu; subst hu; simp [Addr.add]) | 3, hu => (simp at hu; subst hu; simp [Addr.add]) | 4, hu => (simp at hu; subst hu; simp [Addr.add]) | 5, hu => (simp at hu; subst hu; simp [Addr.add]) | i + 6, hu => simp at hu) (by intro u hu; simp at hu; rcases hu with rfl | rfl | rfl | rfl | rfl | rfl <;> rfl) (by omega) (by unfold maxLen; omega) (by omega) (by have := hu1.out.size; simp; omega) _ rfl ?_
       intro g capg w3 hown3 hgrow3 hat3 hlt3
       have hb3 : Hid (Below wc.heap.size (u1.alloc (.cells (List.toArray (cNd X p3 d3 p5 d5)) 73)) w3) := (Below.refl _ _).grown hgrow3 (by have := hu1.out.size; simp; omega) (fun k e => own_block2 hgr'.out.2.2.2.1 k e)
       have bT3 : Hid (Box w3 T [.int .i64 x.vNext, .int .i64 x.vDoc, .slice av j cv, .slice none 0 0, .slice p4 x.vGlobals.length d4] 28) := bT2.out.below hb3.out (by omega)
       go_simp
       refine hK.out _ _ ⟨(hb3.out.cell (p := ⟨w.heap.size, 2, none⟩) (by simp; omega)).trans hHeld.1, (hb3.out.cell (p := ⟨bn, on + j * 6, none⟩) (by simp; omega)).trans hHeld.2.1, (hb3.out.cell (p := ⟨bn, on + j * 6 + 1, none⟩) (by simp; omega)).trans hHeld.2.2.1, (hb3.out.cell (p := ⟨bn, on + j * 6 + 2, none⟩) (by simp; omega)).trans hHeld.2.2.2.1, (hb3.out.cell (p := ⟨bn, on + j * 6 + 3, none⟩) (by simp; omega)).trans hHeld.2.2.2.2.1, (hb3.out.cell (p := ⟨bn, on + j * 6 + 4, none⟩) (by simp; omega)).trans hHeld.2.2.2.2.2.1, (hb3.out.cell (p := ⟨bn, on + j * 6 + 5, none⟩) (by simp; omega)).trans hHeld.2.2.2.2.2.2⟩ (fun hHeld => ?_)
       clear hK K
       refine tk 10 ?_
       refine rd1 11 (fun K hK => ?_)
       have cT3 := bT3.out.cell 2 rfl
       have fT3 := bT3.out.unfrozen
       go_simp
       refine hK.out _ _ ⟨cell_set hHeld.1 (by omega) _, cell_set hHeld.2.1 (by omega) _, cell_set hHeld.2.2.1 (by omega) _, cell_set hHeld.2.2.2.1 (by omega) _, cell_set hHeld.2.2.2.2.1 (by omega) _, cell_set hHeld.2.2.2.2.2.1 (by omega) _, cell_set hHeld.2.2.2.2.2.2 (by omega) _⟩ (fun hHeld => ?_)
       clear hK K
       refine wpAnyH_done (by kernel_rfl) ?_ _
       clear hHeld cT3 fT3
       go_wp2_with fail
       go_roundw
       case rel =>
        have hsz1 := hu1.out.size
        have hg3 := GrowOwn.snoc NodeP_stays hgr'.out (w2 := (u1.alloc (.cells (List.toArray (cNd X p3 d3 p5 d5)) 73))) (hu1.out.alloc hsz1 _) (by omega) rfl (NodeP_stays _ _ _ _ _ (fun b qq => Below.heap_alloc _ _ _ (hi1.out b qq)) ho1'.out) nd1'.out lo1'.out (fun b qq => by have := hi1.out b qq; simp; omega) (by rw [hlenj.out]) hown3 hgrow3 hat3
        refine ⟨j + 1, some ⟨g, 0, none⟩, capg, bss ++ [fs1], css ++ [(cNd X p3 d3 p5 d5)], by omega, by go_num, ?_, bT3.out.set (i := 2) _, ?_⟩
        · show GrowOwn _ _ _ _ _ _ _ _ _
          rw [htk.out]
          exact hg3.set NodeP_stays hTc
        · exact Out.set (Out.far hout.out (((hu1.out.mono (by omega)).alloc (by omega) _).trans hb3.out)) List.mem_cons_self _
       case measure => simp [intOf]; omega
     · go_simp
       refine (l4CopyNodeP_any (by exact NodeAt_stays _ _ _ lo _ _ (.of_below hwr.out.drew) hXat.out) hsX.out).mono ?_
       rintro e u1 ⟨⟨cs1, fs1, rfl, ho1, nd1, lo1⟩, hq1⟩
       have hu1 : Hid (Below wr.heap.size wr u1) := undrew hq1
       have hi1 : Hid (∀ b ∈ fs1, b < u1.heap.size) := NodeP_lt _ _ _ _ ho1
       have lo1' : Hid (∀ b ∈ fs1, wr.heap.size ≤ b) := fun b qq => by have := lo1 b qq; simpa using this
       have ho1' : Hid (NodeP u1 cs1 X fs1) := ho1
       have nd1' : Hid fs1.Nodup := nd1
       obtain ⟨m3, m5, _, _, rfl, q3, q5, _⟩ := NodeP.own ho1
       obtain ⟨p3, d3, rfl⟩ := q3.form
       obtain ⟨p5, d5, rfl⟩ := q5.form
       have bT1 : Hid (Box u1 T [.int .i64 x.vNext, .int .i64 x.vDoc, .slice av j cv, .slice none 0 0, .slice p4 x.vGlobals.length d4] 28) := bTr.out.below hu1.out bTr.out.lt
       clear q3 q5 lo1 nd1
       refine hK.out _ _ ⟨cell_on hq1 hHeld.1, cell_on hq1 hHeld.2.1, cell_on hq1 hHeld.2.2.1, cell_on hq1 hHeld.2.2.2.1, cell_on hq1 hHeld.2.2.2.2.1, cell_on hq1 hHeld.2.2.2.2.2.1, cell_on hq1 hHeld.2.2.2.2.2.2⟩ (fun hHeld => ?_)
       clear hK K
       refine rd2 1 8 (fun K hK => ?_) (fun K hK => ?_)
       · have cT : u1.cell? ⟨T, 2, none⟩ = some (.slice av j cv) := bT1.out.cell 2 rfl
         go_simp
         clear cT
         refine hK.out _ _ hHeld (fun hHeld => ?_)
         clear hK K
         refine rd1 8 (fun K hK => ?_)
         have bT2 : Hid (Box (u1.alloc (.cells (List.toArray (cNd X p3 d3 p5 d5)) 73)) T [.int .i64 x.vNext, .int .i64 x.vDoc, .slice av j cv, .slice none 0 0, .slice p4 x.vGlobals.length d4] 28) := bT1.out.alloc _
         have nb : Hid (Box (u1.alloc (.cells (List.toArray (cNd X p3 d3 p5 d5)) 73)) u1.heap.size (cNd X p3 d3 p5 d5) 73) := Box.new u1 _ _
         go_simp
         refine hK.out _ _ ⟨cell_alloc2 hHeld.1 _, cell_alloc2 hHeld.2.1 _, cell_alloc2 hHeld.2.2.1 _, cell_alloc2 hHeld.2.2.2.1 _, cell_alloc2 hHeld.2.2.2.2.1 _, cell_alloc2 hHeld.2.2.2.2.2.1 _, cell_alloc2 hHeld.2.2.2.2.2.2 _⟩ (fun hHeld => ?_)
         clear hK K
         refine rd1 9 (fun K hK => ?_)
         refine step_append_lies (u1.alloc (.cells (List.toArray (cNd X p3 d3 p5 d5)) 73)) rfl _ _ 24 rfl wc.heap.size 73 iN _ 6 88 Tryz.underlying24 hiN.out heN.out.1 heN.out.2.1 heN.out.2.2 rfl (by decide) (.slice av j cv) j css.flatten rfl (by have h5 := row_below hgr'.out.2.2.2.1 (hu1.out.alloc hu1.out.size (.cells (List.toArray (cNd X p3 d3 p5 d5)) 73)); rw [hlenj.out] at h5; exact h5) ⟨u1.heap.size, 0, none⟩ 1 1 (cNd X p3 d3 p5 d5) rfl rfl (by intro i u hu; match i, hu with | 0, hu => (simp at hu; subst hu; simp [Addr.add]) | 1, hu => (simp at hu; subst hu; simp [Addr.add]) | 2, hu => (simp at hu; subst hu; simp [Addr.add]) | 3, hu => (simp at hu; subst hu; simp [Addr.add]) | 4, hu => (simp at hu; subst hu; simp [Addr.add]) | 5, hu => (simp at hu; subst hu; simp [Addr.add]) | i + 6, hu => simp at hu) (by intro u hu; simp at hu; rcases hu with rfl | rfl | rfl | rfl | rfl | rfl <;> rfl) (by omega) (by unfold maxLen; omega) (by omega) (by have := hu1.out.size; simp; omega) _ rfl ?_
         intro g capg w3 hown3 hgrow3 hat3 hlt3
         have hb3 : Hid (Below wc.heap.size (u1.alloc (.cells (List.toArray (cNd X p3 d3 p5 d5)) 73)) w3) := (Below.refl _ _).grown hgrow3 (by have := hu1.out.size; simp; omega) (fun k e => own_block2 hgr'.out.2.2.2.1 k e)
         have bT3 : Hid (Box w3 T [.int .i64 x.vNext, .int .i64 x.vDoc, .slice av j cv, .slice none 0 0, .slice p4 x.vGlobals.length d4] 28) := bT2.out.below hb3.out (by omega)
         go_simp
         refine hK.out _ _ ⟨(hb3.out.cell (p := ⟨w.heap.size, 2, none⟩) (by simp; omega)).trans hHeld.1, (hb3.out.cell (p := ⟨bn, on + j * 6, none⟩) (by simp; omega)).trans hHeld.2.1, (hb3.out.cell (p := ⟨bn, on + j * 6 + 1, none⟩) (by simp; omega)).trans hHeld.2.2.1, (hb3.out.cell (p := ⟨bn, on + j * 6 + 2, none⟩) (by simp; omega)).trans hHeld.2.2.2.1, (hb3.out.cell (p := ⟨bn, on + j * 6 + 3, none⟩) (by simp; omega)).trans hHeld.2.2.2.2.1, (hb3.out.cell (p := ⟨bn, on + j * 6 + 4, none⟩) (by simp; omega)).trans hHeld.2.2.2.2.2.1, (hb3.out.cell (p := ⟨bn, on + j * 6 + 5, none⟩) (by simp; omega)).trans hHeld.2.2.2.2.2.2⟩ (fun hHeld => ?_)
         clear hK K
         refine tk 10 ?_
         refine rd1 11 (fun K hK => ?_)
         have cT3 := bT3.out.cell 2 rfl
         have fT3 := bT3.out.unfrozen
         go_simp
         refine hK.out _ _ ⟨cell_set hHeld.1 (by omega) _, cell_set hHeld.2.1 (by omega) _, cell_set hHeld.2.2.1 (by omega) _, cell_set hHeld.2.2.2.1 (by omega) _, cell_set hHeld.2.2.2.2.1 (by omega) _, cell_set hHeld.2.2.2.2.2.1 (by omega) _, cell_set hHeld.2.2.2.2.2.2 (by omega) _⟩ (fun hHeld => ?_)
         clear hK K
         refine wpAnyH_done (by kernel_rfl) ?_ _
         clear hHeld cT3 fT3
         go_wp2_with fail
         go_roundw
         case rel =>
          have hsz1 := hu1.out.size
          have hg3 := GrowOwn.snoc NodeP_stays hgr'.out (w2 := (u1.alloc (.cells (List.toArray (cNd X p3 d3 p5 d5)) 73))) (hu1.out.alloc hsz1 _) (by omega) rfl (NodeP_stays _ _ _ _ _ (fun b qq => Below.heap_alloc _ _ _ (hi1.out b qq)) ho1'.out) nd1'.out lo1'.out (fun b qq => by have := hi1.out b qq; simp; omega) (by rw [hlenj.out]) hown3 hgrow3 hat3
          refine ⟨j + 1, some ⟨g, 0, none⟩, capg, bss ++ [fs1], css ++ [(cNd X p3 d3 p5 d5)], by omega, by go_num, ?_, bT3.out.set (i := 2) _, ?_⟩
          · show GrowOwn _ _ _ _ _ _ _ _ _
            rw [htk.out]
            exact hg3.set NodeP_stays hTc
          · exact Out.set (Out.far hout.out (((hu1.out.mono (by omega)).alloc (by omega) _).trans hb3.out)) List.mem_cons_self _
         case measure => simp [intOf]; omega
       · have bT2 : Hid (Box (u1.alloc (.cells (List.toArray (cNd X p3 d3 p5 d5)) 73)) T [.int .i64 x.vNext, .int .i64 x.vDoc, .slice av j cv, .slice none 0 0, .slice p4 x.vGlobals.length d4] 28) := bT1.out.alloc _
         have nb : Hid (Box (u1.alloc (.cells (List.toArray (cNd X p3 d3 p5 d5)) 73)) u1.heap.size (cNd X p3 d3 p5 d5) 73) := Box.new u1 _ _
         go_simp
         refine hK.out _ _ ⟨cell_alloc2 hHeld.1 _, cell_alloc2 hHeld.2.1 _, cell_alloc2 hHeld.2.2.1 _, cell_alloc2 hHeld.2.2.2.1 _, cell_alloc2 hHeld.2.2.2.2.1 _, cell_alloc2 hHeld.2.2.2.2.2.1 _, cell_alloc2 hHeld.2.2.2.2.2.2 _⟩ (fun hHeld => ?_)
         clear hK K
         refine rd1 1 (fun K hK => ?_)
         have cT : (u1.alloc (.cells (List.toArray (cNd X p3 d3 p5 d5)) 73)).cell? ⟨T, 2, none⟩ = some (.slice av j cv) := bT2.out.cell 2 rfl
         go_simp
         clear cT
         refine hK.out _ _ hHeld (fun hHeld => ?_)
         clear hK K
         refine rd1 9 (fun K hK => ?_)
         refine step_append_lies (u1.alloc (.cells (List.toArray (cNd X p3 d3 p5 d5)) 73)) rfl _ _ 24 rfl wc.heap.size 73 iN _ 6 88 Tryz.underlying24 hiN.out heN.out.1 heN.out.2.1 heN.out.2.2 rfl (by decide) (.slice av j cv) j css.flatten rfl (by have h5 := row_below hgr'.out.2.2.2.1 (hu1.out.alloc hu1.out.size (.cells (List.toArray (cNd X p3 d3 p5 d5)) 73)); rw [hlenj.out] at h5; exact h5) ⟨u1.heap.size, 0, none⟩ 1 1 (cNd X p3 d3 p5 d5) rfl rfl (by intro i u hu; match i, hu with | 0, hu => (simp at hu; subst hu; simp [Addr.add]) | 1, hu => (simp at hu; subst hu; simp [Addr.add]) | 2, hu => (simp at hu; subst hu; simp [Addr.add]) | 3, hu => (simp at hu; subst hu; simp [Addr.add]) | 4, hu => (simp at hu; subst hu; simp [Addr.add]) | 5, hu => (simp at hu; subst hu; simp [Addr.add]) | i + 6, hu => simp at hu) (by intro u hu; simp at hu; rcases hu with rfl | rfl | rfl | rfl | rfl | rfl <;> rfl) (by omega) (by unfold maxLen; omega) (by omega) (by have := hu1.out.size; simp; omega) _ rfl ?_
         intro g capg w3 hown3 hgrow3 hat3 hlt3
         have hb3 : Hid (Below wc.heap.size (u1.alloc (.cells (List.toArray (cNd X p3 d3 p5 d5)) 73)) w3) := (Below.refl _ _).grown hgrow3 (by have := hu1.out.size; simp; omega) (fun k e => own_block2 hgr'.out.2.2.2.1 k e)
         have bT3 : Hid (Box w3 T [.int .i64 x.vNext, .int .i64 x.vDoc, .slice av j cv, .slice none 0 0, .slice p4 x.vGlobals.length d4] 28) := bT2.out.below hb3.out (by omega)
         go_simp
         refine hK.out _ _ ⟨(hb3.out.cell (p := ⟨w.heap.size, 2, none⟩) (by simp; omega)).trans hHeld.1, (hb3.out.cell (p := ⟨bn, on + j * 6, none⟩) (by simp; omega)).trans hHeld.2.1, (hb3.out.cell (p := ⟨bn, on + j * 6 + 1, none⟩) (by simp; omega)).trans hHeld.2.2.1, (hb3.out.cell (p := ⟨bn, on + j * 6 + 2, none⟩) (by simp; omega)).trans hHeld.2.2.2.1, (hb3.out.cell (p := ⟨bn, on + j * 6 + 3, none⟩) (by simp; omega)).trans hHeld.2.2.2.2.1, (hb3.out.cell (p := ⟨bn, on + j * 6 + 4, none⟩) (by simp; omega)).trans hHeld.2.2.2.2.2.1, (hb3.out.cell (p := ⟨bn, on + j * 6 + 5, none⟩) (by simp; omega)).trans hHeld.2.2.2.2.2.2⟩ (fun hHeld => ?_)
         clear hK K
         refine tk 10 ?_
         refine rd1 11 (fun K hK => ?_)
         have cT3 := bT3.out.cell 2 rfl
         have fT3 := bT3.out.unfrozen
         go_simp
         refine hK.out _ _ ⟨cell_set hHeld.1 (by omega) _, cell_set hHeld.2.1 (by omega) _, cell_set hHeld.2.2.1 (by omega) _, cell_set hHeld.2.2.2.1 (by omega) _, cell_set hHeld.2.2.2.2.1 (by omega) _, cell_set hHeld.2.2.2.2.2.1 (by omega) _, cell_set hHeld.2.2.2.2.2.2 (by omega) _⟩ (fun hHeld => ?_)
         clear hK K
         refine wpAnyH_done (by kernel_rfl) ?_ _
         clear hHeld cT3 fT3
         go_wp2_with fail
         go_roundw
         case rel =>
          have hsz1 := hu1.out.size
          have hg3 := GrowOwn.snoc NodeP_stays hgr'.out (w2 := (u1.alloc (.cells (List.toArray (cNd X p3 d3 p5 d5)) 73))) (hu1.out.alloc hsz1 _) (by omega) rfl (NodeP_stays _ _ _ _ _ (fun b qq => Below.heap_alloc _ _ _ (hi1.out b qq)) ho1'.out) nd1'.out lo1'.out (fun b qq => by have := hi1.out b qq; simp; omega) (by rw [hlenj.out]) hown3 hgrow3 hat3
          refine ⟨j + 1, some ⟨g, 0, none⟩, capg, bss ++ [fs1], css ++ [(cNd X p3 d3 p5 d5)], by omega, by go_num, ?_, bT3.out.set (i := 2) _, ?_⟩
          · show GrowOwn _ _ _ _ _ _ _ _ _
            rw [htk.out]
            exact hg3.set NodeP_stays hTc
          · exact Out.set (Out.far hout.out (((hu1.out.mono (by omega)).alloc (by omega) _).trans hb3.out)) List.mem_cons_self _
         case measure => simp [intOf]; omega
   · obtain rfl : j = x.vNodes.length := by omega
     have hgr2 := hgr.out
     rw [List.take_length] at hgr2
     obtain ⟨fN, bN, cN, hfN, hsNo, hloN⟩ : ∃ fN bN cN, fN = gfs (.slice av x.vNodes.length cv) bN ∧ GrowOwn 73 6 NodeP wc.heap.size wr (.slice av x.vNodes.length cv) x.vNodes bN cN ∧ ∀ b ∈ fN, wc.heap.size ≤ b := ⟨_, _, _, rfl, hgr2, fun b hb => (hgr2.lts b hb).1⟩
     have hfN' : Hid (fN = gfs (.slice av x.vNodes.length cv) bN) := hfN
     have hsNo' : Hid (GrowOwn 73 6 NodeP wc.heap.size wr (.slice av x.vNodes.length cv) x.vNodes bN cN) := hsNo
     have hloN' : Hid (∀ b ∈ fN, wc.heap.size ≤ b) := hloN
     have hsGr : Hid (SeqOwn 2 FieldOwn wr (.slice p4 x.vGlobals.length d4) x.vGlobals f4) := hsG.out.stays FieldOwn_stays (fun b qq => hout.out.keep (SeqOwn.lt FieldOwn_lt hsG.out b qq) (by have := (hloG.out b qq).2; simpa using this))
     have hltG : Hid (∀ b ∈ f4, b < wc.heap.size) := SeqOwn.lt FieldOwn_lt hsG.out
     have cA2 := bxr.out.cell 2 rfl
     clear hgr hgr2 hsNo hloN hfN hsG bTc bxc bzc hwc hout
     go_wp2_with fail
     clear cA2
     obtain ⟨wo, rfl⟩ : ∃ wo, wo = wr := ⟨wr, rfl⟩
     obtain ⟨pN, dN, rfl, rfl⟩ : ∃ pN dN, pN = av ∧ dN = cv := ⟨av, cv, rfl, rfl⟩
     go_loopw [5] (fun i wr => ∃ (k : Nat) (ao : Option Addr) (co : Nat) (bss : List (List Nat)) (css : List (List Value)), k ≤ x.vObjs.length ∧ i = .int .i64 k ∧ Hid (GrowOwn 75 3 ObjOwn wo.heap.size wr (.slice ao k co) (x.vObjs.take k) bss css) ∧ Hid (Box wr T [.int .i64 x.vNext, .int .i64 x.vDoc, .slice pN x.vNodes.length dN, .slice ao k co, .slice p4 x.vGlobals.length d4] 28) ∧ Hid (Out [T] wo wr)) (fun i _ => x.vObjs.length - (intOf i).toNat)
     case atStart => exact ⟨0, none, 0, [], [], by omega, rfl, GrowOwn.nil, bTr, Out.refl _ _⟩
     case round =>
      obtain ⟨k, ao, co, bss, css, hk, rfl, hgr, bTo, hout⟩ := hrel
      have hzo : wo.heap.size ≤ wr.heap.size := hout.out.2.2.2.1
      have bxo : Hid (Box wr w.heap.size (cHp x a2 c2 a3 c3 a4 c4) 28) := (hout.out.keep bxr.out.lt (by simp; omega)).trans bxr.out
      have bzo : Hid (Box wr (w.heap.size + 1) cZp 28) := (hout.out.keep bzr.out.lt (by simp; omega)).trans bzr.out
      have hwo : Hid (Below w.heap.size w wr) := hwr.out.trans (hout.out.below (by omega) (by simp; omega))
      have hlenk : Hid ((x.vObjs.take k).length = k) := by show _ = _; simp; omega
      by_cases hltk : k < x.vObjs.length
      · obtain ⟨a_, cap_, e_, _, hc_⟩ := hsO.out
        injection e_ with e1 e2 e3
        subst e1 e3
        obtain ⟨bo, oo, rfl, _, hbo, hc⟩ := hc_ (by omega)
        obtain ⟨cs, hcl, lie, hYr⟩ := hc k hltk
        have htk : Hid (x.vObjs.take (k + 1) = x.vObjs.take k ++ [x.vObjs[k]]) := List.take_succ_eq_append_getElem hltk
        have hsY : ObjD.small x.vObjs[k] := hsm.out.2.1.2 k hltk
        generalize x.vObjs[k] = Y at hYr htk hsY
        have hl9 : Y.vFields.length ≤ 1048576 := hsY.1.1
        obtain ⟨k9, rfl, q9, rI, rN, _⟩ := hYr
        obtain ⟨a9, c9, rfl⟩ := q9.form
        obtain ⟨css9, hcF0⟩ := seq_css (by decide) q9
        have hcF : Hid (CssAt 2 FieldAt w lo a9 Y.vFields css9) := hcF0
        have hrY : Hid (InI Y.vId ∧ InI Y.vNode) := ⟨rI, rN⟩
        have z0 : wr.cell? ⟨bo, oo + k * 3, none⟩ = some (.int .i64 Y.vId) := cell_on hwo.out (by have h5 := lie 0 (by simp); simpa using h5)
        have z1 : wr.cell? ⟨bo, oo + k * 3 + 1, none⟩ = some (.int .i64 Y.vNode) := cell_on hwo.out (by have h5 := lie 1 (by simp); simpa using h5)
        have z2 : wr.cell? ⟨bo, oo + k * 3 + 2, none⟩ = some (.slice a9 Y.vFields.length c9) := cell_on hwo.out (by have h5 := lie 2 (by simp); simpa using h5)
        have cA3 := bxo.out.cell 3 rfl
        have hltk' : (k : Int) < (x.vObjs.length : Int) := by omega
        have hk0 : (0 : Int) ≤ (k : Int) := by omega
        have hbY : Below wr.heap.size wr ((wr.alloc (.cells (List.toArray (cOb Y a9 c9)) 75)).alloc (.cells #[] 118)) := ((Below.refl _ _).alloc (Nat.le_refl _) _).alloc (by simp) _
        have bY0 : Hid (Box ((wr.alloc (.cells (List.toArray (cOb Y a9 c9)) 75)).alloc (.cells #[] 118)) wr.heap.size (cOb Y a9 c9) 75) := (Box.new wr _ _).alloc _
        have cY2 := (Box.new wr (cOb Y a9 c9) 75).cell 2 rfl
        have cY2' := bY0.out.cell 2 rfl
        have hr9 : Hid (((wr.alloc (.cells (List.toArray (cOb Y a9 c9)) 75)).alloc (.cells #[] 118)).ownsRow (wr.heap.size + 1) 118 2 (.slice (some ⟨wr.heap.size + 1, 0, none⟩) 0 0) 0 []) := by have h5 := row_new (w := (wr.alloc (.cells (List.toArray (cOb Y a9 c9)) 75))) (B := wr.heap.size + 1) (T := 118) (c := 2) (by simp); simpa [Hid] using h5
        have hcZ : Hid (CssAt 2 (fun _ => FieldAt w) ((wr.alloc (.cells (List.toArray (cOb Y a9 c9)) 75)).alloc (.cells #[] 118)) lo a9 Y.vFields css9) := hcF.out.on (hwo.out.trans (hbY.mono (by have := hwo.out.size; omega)))
        have hzZ : ((wr.alloc (.cells (List.toArray (cOb Y a9 c9)) 75)).alloc (.cells #[] 118)).heap.size = wr.heap.size + 2 := by simp
        clear lie hcl hc hc_ q9 e2 hcF0 rI rN hsY
        go_wp2_with (at_builtin; refine wpList_append_rows (R := fun _ => FieldAt w) rfl _ _ 26 rfl (wr.heap.size + 1) lo 118 iF _ 24 Tryz.underlying26 hiF.out heF.out.1 heF.out.2.1 heF.out.2.2 rfl (by decide) (.slice (some ⟨wr.heap.size + 1, 0, none⟩) 0 0) (0) ([]) rfl (by simp) hr9.out a9 c9 Y.vFields css9 rfl hcZ.out (Field_css hcZ.out) (by unfold maxLen; omega) (by omega) (by first | omega | (simp; omega) | simp) ?_)
        intro v9 u3 hown9 hgrow9 hnn9 hat9
        obtain ⟨g9, d9, rfl⟩ := nonnil_row hown9 hnn9
        have hb9 : Below (wr.heap.size + 1) ((wr.alloc (.cells (List.toArray (cOb Y a9 c9)) 75)).alloc (.cells #[] 118)) u3 := (Below.refl _ _).grown hgrow9 (by omega) (own_block2 hr9.out)
        have bY3 : Box u3 wr.heap.size (cOb Y a9 c9) 75 := bY0.out.below hb9 (by omega)
        have hz9 := hb9.size
        rw [hzZ] at hz9
        have hu3 : Hid (Below wr.heap.size wr u3) := hbY.trans (hb9.mono (by omega))
        have hown9' : Hid (u3.ownsRow (wr.heap.size + 1) 118 2 (.slice (some ⟨g9, 0, none⟩) Y.vFields.length d9) Y.vFields.length css9.flatten) := by have h5 := hown9; simpa [Hid] using h5
        have y2 := bY3.cell 2 rfl
        have uy := bY3.unfrozen
        have bYS : Box (u3.setCell ⟨wr.heap.size, 2, none⟩ (.slice (some ⟨g9, 0, none⟩) Y.vFields.length d9)) wr.heap.size (cOb Y (some ⟨g9, 0, none⟩) d9) 75 := bY3.set (i := 2) _
        have y0s := bYS.cell 0 rfl
        have y1s := bYS.cell 1 rfl
        have y2s := bYS.cell 2 rfl
        have hzS : (u3.setCell ⟨wr.heap.size, 2, none⟩ (.slice (some ⟨g9, 0, none⟩) Y.vFields.length d9)).heap.size = u3.heap.size := set_size ..
        have hYSb : Hid (Below wr.heap.size wr ((u3.setCell ⟨wr.heap.size, 2, none⟩ (.slice (some ⟨g9, 0, none⟩) Y.vFields.length d9)).alloc (.cells (List.toArray (cOb Y (some ⟨g9, 0, none⟩) d9)) 75))) := (hu3.out.setCell (p := ⟨wr.heap.size, 2, none⟩) (Nat.le_refl _) _).alloc (by rw [hzS]; omega) _
        have bTS : Hid (Box (u3.setCell ⟨wr.heap.size, 2, none⟩ (.slice (some ⟨g9, 0, none⟩) Y.vFields.length d9)) T [.int .i64 x.vNext, .int .i64 x.vDoc, .slice pN x.vNodes.length dN, .slice ao k co, .slice p4 x.vGlobals.length d4] 28) := (bTo.out.below hu3.out bTo.out.lt).other (by have := bTo.out.lt; omega) _
        have cT3 := bTS.out.cell 3 rfl
        have bTB : Hid (Box ((u3.setCell ⟨wr.heap.size, 2, none⟩ (.slice (some ⟨g9, 0, none⟩) Y.vFields.length d9)).alloc (.cells (List.toArray (cOb Y (some ⟨g9, 0, none⟩) d9)) 75)) T [.int .i64 x.vNext, .int .i64 x.vDoc, .slice pN x.vNodes.length dN, .slice ao k co, .slice p4 x.vGlobals.length d4] 28) := bTS.out.alloc _
        have nb : Hid (Box ((u3.setCell ⟨wr.heap.size, 2, none⟩ (.slice (some ⟨g9, 0, none⟩) Y.vFields.length d9)).alloc (.cells (List.toArray (cOb Y (some ⟨g9, 0, none⟩) d9)) 75)) u3.heap.size (cOb Y (some ⟨g9, 0, none⟩) d9) 75) := by have h5 := Box.new (u3.setCell ⟨wr.heap.size, 2, none⟩ (.slice (some ⟨g9, 0, none⟩) Y.vFields.length d9)) (cOb Y (some ⟨g9, 0, none⟩) d9) 75; rw [hzS] at h5; exact h5
        have hfY : Hid (∃ fs, ObjOwn ((u3.setCell ⟨wr.heap.size, 2, none⟩ (.slice (some ⟨g9, 0, none⟩) Y.vFields.length d9)).alloc (.cells (List.toArray (cOb Y (some ⟨g9, 0, none⟩) d9)) 75)) (cOb Y (some ⟨g9, 0, none⟩) d9) Y fs ∧ fs.Nodup ∧ (∀ b ∈ fs, wr.heap.size ≤ b) ∧ ∀ b ∈ fs, b < ((u3.setCell ⟨wr.heap.size, 2, none⟩ (.slice (some ⟨g9, 0, none⟩) Y.vFields.length d9)).alloc (.cells (List.toArray (cOb Y (some ⟨g9, 0, none⟩) d9)) 75)).heap.size) := by
         have r9 : ((u3.setCell ⟨wr.heap.size, 2, none⟩ (.slice (some ⟨g9, 0, none⟩) Y.vFields.length d9)).alloc (.cells (List.toArray (cOb Y (some ⟨g9, 0, none⟩) d9)) 75)).ownsRow (wr.heap.size + 1) 118 2 (.slice (some ⟨g9, 0, none⟩) Y.vFields.length d9) Y.vFields.length css9.flatten := row_keep2 hown9'.out (fun kk e => by
          have l1 := own_block2 hown9'.out kk e
          have l2 := row_lt hown9'.out kk e
          rw [Below.heap_alloc _ _ _ (by rw [hzS]; exact l2), set_other (by omega)])
         obtain ⟨f9, s9, lo9⟩ := seqOwn_of_css (O := FieldOwn) hcF.out r9 (fun cs y => field_own2 cs y)
         exact ⟨f9, ⟨_, f9, rfl, s9, hrY.out.1, hrY.out.2, rfl⟩, s9.nodup, fun b qq => by have := lo9 b qq; omega, SeqOwn.lt FieldOwn_lt s9⟩
        obtain ⟨fY, ho0, nd0, lo0, hi0⟩ := hfY.out
        have hoY : Hid (ObjOwn ((u3.setCell ⟨wr.heap.size, 2, none⟩ (.slice (some ⟨g9, 0, none⟩) Y.vFields.length d9)).alloc (.cells (List.toArray (cOb Y (some ⟨g9, 0, none⟩) d9)) 75)) (cOb Y (some ⟨g9, 0, none⟩) d9) Y fY) := ho0
        have ndY : Hid fY.Nodup := nd0
        have loY : Hid (∀ b ∈ fY, wr.heap.size ≤ b) := lo0
        have hiY : Hid (∀ b ∈ fY, b < ((u3.setCell ⟨wr.heap.size, 2, none⟩ (.slice (some ⟨g9, 0, none⟩) Y.vFields.length d9)).alloc (.cells (List.toArray (cOb Y (some ⟨g9, 0, none⟩) d9)) 75)).heap.size) := hi0
        clear hown9 hgrow9 hnn9 hat9 hbY bY0 cY2 cY2' hr9 hcZ hb9 ho0 nd0 lo0 hi0 hfY hcF
        go_wp2_with (at_builtin; refine wpList_append_grow ObjOwn_stays rfl _ _ 25 rfl wo.heap.size iO _ 40 Tryz.underlying25 hiO.out heO.out.1 heO.out.2.1 heO.out.2.2 rfl (by decide) (y := Y) (fs := fY) (cs := (cOb Y (some ⟨g9, 0, none⟩) d9)) (v := .slice ao k co) rfl hgr.out hYSb.out hzo _ _ rfl rfl (by intro i u hu; match i, hu with | 0, hu => (simp at hu; subst hu; exact nb.out.cell 0 rfl) | 1, hu => (simp at hu; subst hu; exact nb.out.cell 1 rfl) | 2, hu => (simp at hu; subst hu; exact nb.out.cell 2 rfl) | i + 3, hu => simp at hu) (by intro u hu; simp at hu; rcases hu with rfl | rfl | rfl <;> rfl) hoY.out ndY.out loY.out hiY.out (by rw [hlenk.out]; unfold maxLen; omega) (by rw [hlenk.out]; omega) ?_; intro g capg w3 hgr3 hg3 hb3; rw [hlenk.out] at hgr3 ⊢; have hgr3' : Hid (GrowOwn 75 3 ObjOwn wo.heap.size w3 (.slice (some ⟨g, 0, none⟩) (k + 1) capg) (x.vObjs.take k ++ [Y]) (bss ++ [fY]) (css ++ [(cOb Y (some ⟨g9, 0, none⟩) d9)])) := hgr3; have bT3 : Hid (Box w3 T [.int .i64 x.vNext, .int .i64 x.vDoc, .slice pN x.vNodes.length dN, .slice ao k co, .slice p4 x.vGlobals.length d4] 28) := bTB.out.below hb3 (by omega); have hb3' : Hid (Below wo.heap.size ((u3.setCell ⟨wr.heap.size, 2, none⟩ (.slice (some ⟨g9, 0, none⟩) Y.vFields.length d9)).alloc (.cells (List.toArray (cOb Y (some ⟨g9, 0, none⟩) d9)) 75)) w3) := hb3; have cT33 := bT3.out.cell 3 rfl; have fT33 := bT3.out.unfrozen; clear hgr3 hg3 hb3)
        go_roundw
        case rel =>
         refine ⟨k + 1, some ⟨g, 0, none⟩, capg, bss ++ [fY], css ++ [(cOb Y (some ⟨g9, 0, none⟩) d9)], by omega, by go_num, ?_, bT3.out.set (i := 3) _, ?_⟩
         · show GrowOwn _ _ _ _ _ _ _ _ _
           rw [htk.out]
           exact hgr3'.out.set ObjOwn_stays (by omega)
         · exact Out.set (Out.far hout.out ((hYSb.out.mono hzo).trans hb3'.out)) List.mem_cons_self _
        case measure => simp [intOf]; omega
      · obtain rfl : k = x.vObjs.length := by omega
        have hgr2 := hgr.out
        rw [List.take_length] at hgr2
        obtain ⟨fO, bO, cO, hfO, hsOo, hloO⟩ : ∃ fO bO cO, fO = gfs (.slice ao x.vObjs.length co) bO ∧ GrowOwn 75 3 ObjOwn wo.heap.size wr (.slice ao x.vObjs.length co) x.vObjs bO cO ∧ ∀ b ∈ fO, wo.heap.size ≤ b := ⟨_, _, _, rfl, hgr2, fun b hb => (hgr2.lts b hb).1⟩
        have hltO : ∀ b ∈ fO, b < wr.heap.size := fun b hb => (hsOo.lts b (by rw [← hfO]; exact hb)).2
        have hltN : ∀ b ∈ fN, b < wo.heap.size := fun b hb => (hsNo'.out.lts b (by rw [← hfN'.out]; exact hb)).2
        obtain ⟨pO, dO, rfl, rfl⟩ : ∃ pO dO, pO = ao ∧ dO = co := ⟨ao, co, rfl, rfl⟩
        have bF : Box (((((wr.setCell ⟨w.heap.size + 1, 0, none⟩ (.int .i64 x.vNext)).setCell ⟨w.heap.size + 1, 1, none⟩ (.int .i64 x.vDoc)).setCell ⟨w.heap.size + 1, 2, none⟩ (.slice pN x.vNodes.length dN)).setCell ⟨w.heap.size + 1, 3, none⟩ (.slice pO x.vObjs.length dO)).setCell ⟨w.heap.size + 1, 4, none⟩ (.slice p4 x.vGlobals.length d4)) (w.heap.size + 1) (cHp x pN dN pO dO p4 d4) 28 := ((((bzo.out.set (i := 0) _).set (i := 1) _).set (i := 2) _).set (i := 3) _).set (i := 4) _
        have hKF : ∀ b, w.heap.size + 2 ≤ b → (((((wr.setCell ⟨w.heap.size + 1, 0, none⟩ (.int .i64 x.vNext)).setCell ⟨w.heap.size + 1, 1, none⟩ (.int .i64 x.vDoc)).setCell ⟨w.heap.size + 1, 2, none⟩ (.slice pN x.vNodes.length dN)).setCell ⟨w.heap.size + 1, 3, none⟩ (.slice pO x.vObjs.length dO)).setCell ⟨w.heap.size + 1, 4, none⟩ (.slice p4 x.vGlobals.length d4)).heap[b]? = wr.heap[b]? := fun b qq => by
         rw [set_other (by omega), set_other (by omega), set_other (by omega), set_other (by omega), set_other (by omega)]
        have hBF : Hid (Below w.heap.size w (((((wr.setCell ⟨w.heap.size + 1, 0, none⟩ (.int .i64 x.vNext)).setCell ⟨w.heap.size + 1, 1, none⟩ (.int .i64 x.vDoc)).setCell ⟨w.heap.size + 1, 2, none⟩ (.slice pN x.vNodes.length dN)).setCell ⟨w.heap.size + 1, 3, none⟩ (.slice pO x.vObjs.length dO)).setCell ⟨w.heap.size + 1, 4, none⟩ (.slice p4 x.vGlobals.length d4))) := (((((hwo.out.setCell (by simp) _).setCell (by simp) _).setCell (by simp) _).setCell (by simp) _).setCell (by simp) _)
        have hans : Hid (∃ fs, HeapP (((((wr.setCell ⟨w.heap.size + 1, 0, none⟩ (.int .i64 x.vNext)).setCell ⟨w.heap.size + 1, 1, none⟩ (.int .i64 x.vDoc)).setCell ⟨w.heap.size + 1, 2, none⟩ (.slice pN x.vNodes.length dN)).setCell ⟨w.heap.size + 1, 3, none⟩ (.slice pO x.vObjs.length dO)).setCell ⟨w.heap.size + 1, 4, none⟩ (.slice p4 x.vGlobals.length d4)) (cHp x pN dN pO dO p4 d4) x fs ∧ ∀ b ∈ fs, w.heap.size ≤ b) := by
         have q2 := hsNo'.out.stays (w' := (((((wr.setCell ⟨w.heap.size + 1, 0, none⟩ (.int .i64 x.vNext)).setCell ⟨w.heap.size + 1, 1, none⟩ (.int .i64 x.vDoc)).setCell ⟨w.heap.size + 1, 2, none⟩ (.slice pN x.vNodes.length dN)).setCell ⟨w.heap.size + 1, 3, none⟩ (.slice pO x.vObjs.length dO)).setCell ⟨w.heap.size + 1, 4, none⟩ (.slice p4 x.vGlobals.length d4))) NodeP_stays (fun b qq0 => by have qq : b ∈ fN := (by rw [hfN'.out]; exact qq0); have l1 := hloN'.out b qq; have l2 := hltN b qq; rw [hKF b (by omega), hout.out.keep l2 (by simp; omega)])
         have q3 := hsOo.stays (w' := (((((wr.setCell ⟨w.heap.size + 1, 0, none⟩ (.int .i64 x.vNext)).setCell ⟨w.heap.size + 1, 1, none⟩ (.int .i64 x.vDoc)).setCell ⟨w.heap.size + 1, 2, none⟩ (.slice pN x.vNodes.length dN)).setCell ⟨w.heap.size + 1, 3, none⟩ (.slice pO x.vObjs.length dO)).setCell ⟨w.heap.size + 1, 4, none⟩ (.slice p4 x.vGlobals.length d4))) ObjOwn_stays (fun b qq0 => by have qq : b ∈ fO := (by rw [hfO]; exact qq0); have l1 := hloO b qq; rw [hKF b (by omega)])
         have q4 := hsGr.out.stays (w' := (((((wr.setCell ⟨w.heap.size + 1, 0, none⟩ (.int .i64 x.vNext)).setCell ⟨w.heap.size + 1, 1, none⟩ (.int .i64 x.vDoc)).setCell ⟨w.heap.size + 1, 2, none⟩ (.slice pN x.vNodes.length dN)).setCell ⟨w.heap.size + 1, 3, none⟩ (.slice pO x.vObjs.length dO)).setCell ⟨w.heap.size + 1, 4, none⟩ (.slice p4 x.vGlobals.length d4))) FieldOwn_stays (fun b qq => by have l1 := hloG.out b qq; have l2 := hltG.out b qq; rw [hKF b l1.1, hout.out.keep (by omega) (by simpa using l1.2)])
         refine ⟨fN ++ fO ++ f4, ⟨_, _, _, bN, bO, cN, cO, f4, rfl, q2.base0, q3.base0, q4, hrr.out.1, hrr.out.2, by rw [hfN'.out, hfO], ?_⟩, fun b qq => ?_⟩
         · refine List.nodup_append.2 ⟨nodup_two (q := wo.heap.size) (by rw [hfN'.out]; exact q2.nodups) (by rw [hfO]; exact q3.nodups) hltN hloO, q4.nodup, fun a ha b hb' e => ?_⟩
           subst e
           have l4 := hltG.out a hb'
           rcases List.mem_append.1 ha with r | r
           · have := hloN'.out a r; omega
           · have := hloO a r; omega
         · rcases List.mem_append.1 qq with r | r
           · rcases List.mem_append.1 r with r2 | r2
             · have := hloN'.out b r2; omega
             · have := hloO b r2; omega
           · have := (hloG.out b r).1; omega
        have cA3 := bxo.out.cell 3 rfl
        obtain ⟨e0, e1, e2, e3, e4⟩ := fv5 bTo.out
        obtain ⟨z0, z1, z2, z3, z4⟩ := fv5 bzo.out
        have uz := bzo.out.unfrozen
        obtain ⟨g0, g1, g2, g3, g4⟩ := fv5 bF
        clear hgr hgr2 hsOo hloO hltO hltN hKF bF hout
        go_wp2_with fail
        refine bodyPost_ret (v := .agg (List.toArray (cHp x pN dN pO dO p4 d4))) (by simp [results, Tryz.results73, go_sem, g0, g1, g2, g3, g4]) rfl ?_
        exact ⟨⟨(cHp x pN dN pO dO p4 d4), rfl, hans.out⟩, hBF.out⟩
end Go.Proofs.YtdnembnlomnceaaGreat
