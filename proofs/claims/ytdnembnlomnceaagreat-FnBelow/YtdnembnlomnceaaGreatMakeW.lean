/- l4Make of the specification: walked. -/
import Derived.Test.YtdnembnlomnceaaGreatAbb
import Derived.Test.YtdnembnlomnceaaGreatRnMake
import Derived.Test.YtdnembnlomnceaaGreatRnAct
namespace Go.Proofs.YtdnembnlomnceaaGreat
open Go.RowKit Go.Deep
structure HX (ds : List Value) (T : Nat) (w : World) (fs : List Nat) (g r q : Nat) (W : World) (cs : List Value) (y : HeapD) (fs' : List Nat) : Prop where
 hb : HB w fs g r W cs y fs'
 bq : Box W q ds T
 nq : ∀ b ∈ fs', b ≠ q
 oq : w.heap.size ≤ q ∧ q ≠ g ∧ q ≠ r
theorem HX.below {ds : List Value} {T q : Nat} {w W W' : World} {fs fs' : List Nat} {g r : Nat} {cs : List Value} {y : HeapD} (h : HX ds T w fs g r q W cs y fs') (z : Below W.heap.size W W') : HX ds T w fs g r q W' cs y fs' :=
 ⟨h.hb.below z, h.bq.below z h.bq.lt, h.nq, h.oq⟩
theorem HX.start {w : World} {fs : List Nat} {cs ds : List Value} {T : Nat} {x : HeapD} (h : HeapP w cs x fs) : HX ds T w fs w.heap.size (w.heap.size + 1 + 1) (w.heap.size + 1) (((w.alloc (.cells cs.toArray 28)).alloc (.cells ds.toArray T)).alloc (.cells cZp.toArray 28)) cs x fs := by
 have hb : Below w.heap.size w (((w.alloc (.cells cs.toArray 28)).alloc (.cells ds.toArray T)).alloc (.cells cZp.toArray 28)) := (((Below.refl _ _).alloc (Nat.le_refl _) _).alloc (by simp) _).alloc (by simp; omega) _
 have hlt := h.lt
 refine ⟨⟨((Box.new w cs _).alloc _).alloc _, by have q := Box.new ((w.alloc (.cells cs.toArray 28)).alloc (.cells ds.toArray T)) cZp 28; rw [World.size_alloc, World.size_alloc] at q; exact q, h.below hb, fun b hb => ⟨Or.inl hb, by have := hlt b hb; omega, by have := hlt b hb; omega⟩, Out.of_below hb, Nat.le_refl _, by omega, by omega⟩, by have q := (Box.new (w.alloc (.cells cs.toArray 28)) ds T).alloc (.cells cZp.toArray 28); rw [World.size_alloc] at q; exact q, fun b hb => by have := hlt b hb; omega, by omega, by omega, by omega⟩
theorem HX.store {ds : List Value} {T q : Nat} {w W W1 : World} {fs fs' fs1 : List Nat} {g r : Nat} {cs cs1 : List Value} {y y1 : HeapD} {i : Nat} {v : Value} (h : HX ds T w fs g r q W cs y fs') (hp : HeapP W1 cs1 y1 fs1) (hs : ∀ b ∈ fs1, b ∈ fs' ∨ W.heap.size ≤ b) (ho : Out fs' W W1) (e : cs.set i v = cs1) : HX ds T w fs g r q (W1.setCell ⟨g, i, none⟩ v) cs1 y1 fs1 :=
 ⟨h.hb.store hp hs ho e, Box.other (show Box W1 q ds T from (ho.keep h.bq.lt (fun z => h.nq q z rfl)).trans h.bq) h.oq.2.1 v, fun b hb => by rcases hs b hb with z | z; exact h.nq b z; have := h.bq.lt; omega, h.oq⟩
theorem HeapP.globs {w : World} {k0 k1 vN vO vG : Value} {x : HeapD} {fs : List Nat} (h : HeapP w [k0, k1, vN, vO, vG] x fs) : SeqAt 2 FieldAt w 0 vG x.vGlobals := by
 obtain ⟨vN', vO', vG', bN, bO, cN, cO, fG, e, hN, hO, hG, _⟩ := h
 simp only [List.cons.injEq, and_true] at e
 obtain ⟨rfl, rfl, rfl, rfl, rfl⟩ := e
 exact hG.at FieldOwn_at (fun _ _ => Nat.zero_le _)
/-- a step of another function on the heap, its answer put into the box -/
theorem HX.step {ds : List Value} {T q : Nat} {w W W1 : World} {fs fs' : List Nat} {g r : Nat} {cs : List Value} {y y1 : HeapD} {k0 k1 k2 k3 k4 : Value} (h0 : HX ds T w fs g r q W cs y fs') (hc : cs.length = 5) (hr : HR W fs' W1 [k0, k1, k2, k3, k4] y1) : ∃ fs1, HX ds T w fs g r q (putCells W1 g 0 [k0, k1, k2, k3, k4]) [k0, k1, k2, k3, k4] y1 fs1 := by
 have h := h0.hb
 obtain ⟨fs1, hp, hs, ho⟩ := hr
 obtain ⟨a0, a1, a2, a3, a4, rfl⟩ : ∃ a0 a1 a2 a3 a4, cs = [a0, a1, a2, a3, a4] := by
  match cs, hc with
  | [a0, a1, a2, a3, a4], _ => exact ⟨a0, a1, a2, a3, a4, rfl⟩
 have hg := h.bH.lt
 have hrl := h.bR.lt
 have ord := h.ord
 have hgn : g ∉ fs' := fun q => (h.sub g q).2.1 rfl
 have hrn : r ∉ fs' := fun q => (h.sub r q).2.2 rfl
 have hsub : ∀ b ∈ fs1, (b ∈ fs ∨ w.heap.size ≤ b) ∧ b ≠ g ∧ b ≠ r := fun b hb => by
  rcases hs b hb with q | q
  · exact h.sub b q
  · exact ⟨Or.inr (by have := h.out.2.2.2.1; omega), by omega, by omega⟩
 have b1 : Box W1 g [a0, a1, a2, a3, a4] 28 := (ho.keep hg hgn).trans h.bH
 have hqn : q ∉ fs' := fun z => h0.nq q z rfl
 refine ⟨fs1, ⟨((((b1.set (i := 0) _).set (i := 1) _).set (i := 2) _).set (i := 3) _).set (i := 4) _, (putCells_other _ _ _ _ _ (by omega)).trans ((ho.keep hrl hrn).trans h.bR), hp.stays fun b hb => putCells_other _ _ _ _ _ (hsub b hb).2.1, hsub, ?_, ord⟩, (putCells_other _ _ _ _ _ h0.oq.2.1).trans ((ho.keep h0.bq.lt hqn).trans h0.bq), fun b hb => (by rcases hs b hb with z | z; exact h0.nq b z; have := h0.bq.lt; omega), h0.oq⟩
 exact Out.box (Out.box (Out.box (Out.box (Out.box ⟨ho.1.trans h.out.1, ho.2.1.trans h.out.2.1, ho.2.2.1.trans h.out.2.2.1, Nat.le_trans h.out.2.2.2.1 ho.2.2.2.1, fun b q1 q2 => (ho.2.2.2.2 b (Nat.lt_of_lt_of_le q1 h.out.2.2.2.1) (fun q => by rcases (h.sub b q).1 with z | z; exact q2 z; omega)).trans (h.out.2.2.2.2 b q1 q2)⟩ ord.1 _) ord.1 _) ord.1 _) ord.1 _) ord.1 _
end Go.Proofs.YtdnembnlomnceaaGreat
namespace Go.Proofs.YtdnembnlomnceaaGreat
open Go.RowKit Go.Deep
theorem Box.puts_other {w : World} {b : Nat} {cs : List Value} {T : TypeId} (h : Box w b cs T) {g : Nat} (hne : b ≠ g) (vs : List Value) : Box (putCells w g 0 vs) b cs T := (putCells_other vs w g 0 b hne).trans h
theorem HX.gone {ds : List Value} {T q : Nat} {w W W1 : World} {fs fs' : List Nat} {g r : Nat} {cs cs1 : List Value} {y y1 : HeapD} (h : HX ds T w fs g r q W cs y fs') (hr : HR W fs' W1 cs1 y1) :
 Box W1 g cs 28 ∧ Box W1 q ds T ∧ W.heap.size ≤ W1.heap.size ∧ ∀ {b : Nat} {vs : List Value} {U : Nat}, Box W b vs U → b ∉ fs' → Box W1 b vs U := by
 obtain ⟨fs1, hp, hs, ho⟩ := hr
 exact ⟨(ho.keep h.hb.bH.lt (fun z => (h.hb.sub _ z).2.1 rfl)).trans h.hb.bH, (ho.keep h.bq.lt (fun z => h.nq _ z rfl)).trans h.bq, ho.2.2.2.1, fun hb hn => (ho.keep hb.lt hn).trans hb⟩
/-- the heap put into a box that was there ahead of the call -/
theorem HX.nextPut {ds : List Value} {T q : Nat} {w W W1 : World} {fs fs' : List Nat} {g r : Nat} {cs cs1 : List Value} {y y1 : HeapD} (h : HX ds T w fs g r q W cs y fs') (hr : HR W fs' W1 cs1 y1) {E : Nat} {k0 k1 k2 k3 k4 : Value} (hb : Box W1 E [k0, k1, k2, k3, k4] 28) (e5 : cs1.length = 5) (h1 : w.heap.size ≤ E) (h2 : E ≠ r ∧ E ≠ q) (h3 : E ∉ fs') (h4 : E < W.heap.size) :
 ∃ fs1, HX ds T w fs E r q (putCells W1 E 0 cs1) cs1 y1 fs1 := by
 obtain ⟨b1, b2, hz, _⟩ := h.gone hr
 obtain ⟨fs1, hp, hs, ho⟩ := hr
 obtain ⟨a0, a1, a2, a3, a4, rfl⟩ : ∃ a0 a1 a2 a3 a4, cs1 = [a0, a1, a2, a3, a4] := by
  match cs1, e5 with
  | [a0, a1, a2, a3, a4], _ => exact ⟨a0, a1, a2, a3, a4, rfl⟩
 have hrn : r ∉ fs' := fun z => (h.hb.sub r z).2.2 rfl
 have hrl := h.hb.bR.lt
 have hsub : ∀ b ∈ fs1, (b ∈ fs ∨ w.heap.size ≤ b) ∧ b ≠ E ∧ b ≠ r ∧ b ≠ q := fun b hb => by
  rcases hs b hb with z | z
  · exact ⟨(h.hb.sub b z).1, fun e => h3 (e ▸ z), (h.hb.sub b z).2.2, h.nq b z⟩
  · have := h.hb.out.2.2.2.1; have := h.bq.lt; exact ⟨Or.inr (by omega), by omega, by omega, by omega⟩
 have hE : Box (putCells W1 E 0 [a0, a1, a2, a3, a4]) E [a0, a1, a2, a3, a4] 28 := ((((hb.set (i := 0) _).set (i := 1) _).set (i := 2) _).set (i := 3) _).set (i := 4) _
 have ho2 : Out fs w W1 := ⟨ho.1.trans h.hb.out.1, ho.2.1.trans h.hb.out.2.1, ho.2.2.1.trans h.hb.out.2.2.1, Nat.le_trans h.hb.out.2.2.2.1 ho.2.2.2.1, fun b q1 q2 => (ho.2.2.2.2 b (Nat.lt_of_lt_of_le q1 h.hb.out.2.2.2.1) (fun z => by rcases (h.hb.sub b z).1 with y | y; exact q2 y; omega)).trans (h.hb.out.2.2.2.2 b q1 q2)⟩
 refine ⟨fs1, ⟨hE, (putCells_other _ _ _ _ _ (fun e => h2.1 e.symm)).trans ((ho.keep hrl hrn).trans h.hb.bR), hp.stays fun b hb => putCells_other _ _ _ _ _ (hsub b hb).2.1, fun b hb => ⟨(hsub b hb).1, (hsub b hb).2.1, (hsub b hb).2.2.1⟩, Out.puts ho2 h1 _, h1, h.hb.ord.2.1, h2.1⟩, (putCells_other _ _ _ _ _ (fun e => h2.2 e.symm)).trans b2, fun b hb => (hsub b hb).2.2.2, h.oq.1, fun e => h2.2 e.symm, h.oq.2.2⟩
/-- the heap put into a new box, behind the call -/
theorem HX.nextNew {ds : List Value} {T q : Nat} {w W W1 : World} {fs fs' : List Nat} {g r : Nat} {cs cs1 : List Value} {y y1 : HeapD} (h : HX ds T w fs g r q W cs y fs') (hr : HR W fs' W1 cs1 y1) :
 ∃ fs1, HX ds T w fs W1.heap.size r q (W1.alloc (.cells cs1.toArray 28)) cs1 y1 fs1 := by
 obtain ⟨b1, b2, hz, _⟩ := h.gone hr
 obtain ⟨fs1, hp, hs, ho⟩ := hr
 have hrn : r ∉ fs' := fun z => (h.hb.sub r z).2.2 rfl
 have hrl := h.hb.bR.lt
 have hql := h.bq.lt
 have hwl := h.hb.out.2.2.2.1
 have hlt := hp.lt
 have hB : Below W1.heap.size W1 (W1.alloc (.cells cs1.toArray 28)) := (Below.refl _ _).alloc (Nat.le_refl _) _
 have hsub : ∀ b ∈ fs1, (b ∈ fs ∨ w.heap.size ≤ b) ∧ b ≠ W1.heap.size ∧ b ≠ r ∧ b ≠ q := fun b hb => by
  have hl := hlt b hb
  rcases hs b hb with z | z
  · exact ⟨(h.hb.sub b z).1, by omega, (h.hb.sub b z).2.2, h.nq b z⟩
  · exact ⟨Or.inr (by omega), by omega, by omega, by omega⟩
 have ho2 : Out fs w W1 := ⟨ho.1.trans h.hb.out.1, ho.2.1.trans h.hb.out.2.1, ho.2.2.1.trans h.hb.out.2.2.1, Nat.le_trans h.hb.out.2.2.2.1 ho.2.2.2.1, fun b q1 q2 => (ho.2.2.2.2 b (Nat.lt_of_lt_of_le q1 h.hb.out.2.2.2.1) (fun z => by rcases (h.hb.sub b z).1 with y | y; exact q2 y; omega)).trans (h.hb.out.2.2.2.2 b q1 q2)⟩
 have bR1 : Box W1 r cZp 28 := (ho.keep hrl hrn).trans h.hb.bR
 exact ⟨fs1, ⟨Box.new W1 cs1 _, bR1.alloc _, hp.below hB, fun b hb => ⟨(hsub b hb).1, (hsub b hb).2.1, (hsub b hb).2.2.1⟩, ho2.farP (hB.mono ho2.2.2.2.1), by omega, h.hb.ord.2.1, by omega⟩, b2.alloc _, fun b hb => (hsub b hb).2.2.2, h.oq.1, by omega, h.oq.2.2⟩
theorem wrap_inI {w : World} {cs : List Value} {x : HeapD} {fs : List Nat} (h : HeapP w cs x fs) (id : Int) : InI (wrapD x id).2 := by
 obtain ⟨vN, vO, vG, bN, bO, cN, cO, fG, e, hN, _, _, i1, _⟩ := h
 unfold wrapD
 split
 · unfold wrapOf
   rcases idxN_is x id with ⟨_, q⟩ | ⟨i, hi, _, _, q⟩
   · rw [q]; show InI 0; unfold InI; omega
   · rw [q]
     obtain ⟨h1, h2, h3, h4, h5, h6, h7⟩ := hN
     obtain ⟨_, _, _, _, _, _, _, _, _, _, _, r, _⟩ := h5 i hi (by omega) (by omega)
     exact r
 · exact i1
end Go.Proofs.YtdnembnlomnceaaGreat
namespace Go.Proofs.YtdnembnlomnceaaGreat
open Go.RowKit Go.Deep
theorem infoNodeP : ((Tryz.prog.info? 73).map fun i => (i.zero, i.size, i.bytes)) = some (some (.agg #[.int .i64 0, .string ByteArray.empty, .int .i64 0, .slice none 0 0, .int .i64 0, .slice none 0 0]), 6, 88) := by kernel_rfl
set_option maxRecDepth 100000 in
set_option maxHeartbeats 8000000 in
theorem l4Make_any {w : World} {cs : List Value} {x : HeapD} {fs : List Nat} {o : OpD} (hp : HeapP w cs x fs) (hf : o.fits) (hnx0 : 0 ≤ x.vNext ∧ x.vNext ≤ 1000000000) (hol0 : x.vObjs.length ≤ 1000) (hnl0 : x.vNodes.length ≤ 1000) (hgl0 : x.vGlobals.length ≤ 1000) (hdi0 : InI x.vDoc) (hdc0 : o.vKind = 1 ∨ o.vKind = 2 ∨ o.vKind = 10 → 0 ≤ idxN x x.vDoc) (hwi0 : InI (wrapD x x.vDoc).2) (hk0 : o.vKind = 1 ∨ o.vKind = 2 ∨ o.vKind = 10) :
 Calls Tryz.prog 122 #[.agg cs.toArray, .agg o.cells.toArray] w fun e w' => ∃ cs', e = .returned (.tuple #[.agg cs'.toArray, .int .i64 0]) ∧ HR w fs w' cs' (makeD x o) := by
 obtain ⟨aN, kN, aO, kO, aG, kG, rfl⟩ := hp.form
 have hpx : Hid (HeapP w (cHp x aN kN aO kO aG kG) x fs) := hp
 have hfit : Hid (o.vName.size ≤ maxLen ∧ o.vOther.size ≤ maxLen ∧ o.vWord.size ≤ maxLen ∧ o.vType.size ≤ maxLen ∧ o.vLname.size ≤ maxLen) := hf
 have hnx : Hid (0 ≤ x.vNext ∧ x.vNext ≤ 1000000000) := hnx0
 have hol : Hid (x.vObjs.length ≤ 1000) := hol0
 have hnl : Hid (x.vNodes.length ≤ 1000) := hnl0
 have hgl : Hid (x.vGlobals.length ≤ 1000) := hgl0
 have hdi : Hid (InI x.vDoc) := hdi0
 have hdc : Hid (o.vKind = 1 ∨ o.vKind = 2 ∨ o.vKind = 10 → 0 ≤ idxN x x.vDoc) := hdc0
 have hwi : Hid (InI (wrapD x x.vDoc).2) := hwi0
 clear hp hf hnx0 hol0 hnl0 hgl0 hdi0 hdc0 hwi0
 unfold OpD.cells
 by_cases hk : o.vKind = 1
 · skip
   have hmH : Hid (makeH x o = newD (withNode x o.vWord) x.vNext) := by show _ = _; unfold makeH; rw [if_pos hk]
   have hmI : Hid (makeId x o = x.vNext + 1) := by show _ = _; unfold makeId; rw [if_pos hk]
   rw [hk]
   have hkh : Hid (o.vKind = 1) := hk
   clear hk
   have hZ0 : Hid (HX (cOp 1 o) 91 w fs w.heap.size (w.heap.size + 1 + 1) (w.heap.size + 1) (((w.alloc (.cells (cHp x aN kN aO kO aG kG).toArray 28)).alloc (.cells (cOp 1 o).toArray 91)).alloc (.cells cZp.toArray 28)) (cHp x aN kN aO kO aG kG) x fs) := HX.start hpx.out
   have hid : Hid (InI (x.vNext + 1)) := by have := hnx.out; show InI _; unfold InI; omega
   have hnx1 := hnx.out
   have hw1 : IntKind.i64.wrap (x.vNext + 1) = x.vNext + 1 := by rw [IntKind.wrap_i64]; omega
   obtain ⟨iN, hiN0, heN0, heN1, heN2⟩ := info_partsP infoNodeP
   have hiN : Hid (Tryz.prog.info? 73 = some iN) := hiN0
   have heN : Hid (iN.zero = some (.agg #[.int .i64 0, .string ByteArray.empty, .int .i64 0, .slice none 0 0, .int .i64 0, .slice none 0 0]) ∧ iN.size = 6 ∧ iN.bytes = 88) := ⟨heN0, heN1, heN2⟩
   clear hiN0 heN0 heN1 heN2
   have hZ1 : Hid (HX (cOp 1 o) 91 w fs w.heap.size (w.heap.size + 1 + 1) (w.heap.size + 1) (((w.alloc (.cells #[.int .i64 (x.vNext + 1), .int .i64 x.vDoc, .slice aN x.vNodes.length kN, .slice aO x.vObjs.length kO, .slice aG x.vGlobals.length kG] 28)).alloc (.cells (cOp 1 o).toArray 91)).alloc (.cells cZp.toArray 28)) [.int .i64 (x.vNext + 1), .int .i64 x.vDoc, .slice aN x.vNodes.length kN, .slice aO x.vObjs.length kO, .slice aG x.vGlobals.length kG] { x with vNext := x.vNext + 1 } fs) := HX.start (hpx.out.next (by have := hnx.out; unfold InI; omega))
   have hqC : Below (((w.alloc (.cells #[.int .i64 (x.vNext + 1), .int .i64 x.vDoc, .slice aN x.vNodes.length kN, .slice aO x.vObjs.length kO, .slice aG x.vGlobals.length kG] 28)).alloc (.cells (cOp 1 o).toArray 91)).alloc (.cells cZp.toArray 28)).heap.size (((w.alloc (.cells #[.int .i64 (x.vNext + 1), .int .i64 x.vDoc, .slice aN x.vNodes.length kN, .slice aO x.vObjs.length kO, .slice aG x.vGlobals.length kG] 28)).alloc (.cells (cOp 1 o).toArray 91)).alloc (.cells cZp.toArray 28)) ((((w.alloc (.cells #[.int .i64 (x.vNext + 1), .int .i64 x.vDoc, .slice aN x.vNodes.length kN, .slice aO x.vObjs.length kO, .slice aG x.vGlobals.length kG] 28)).alloc (.cells (cOp 1 o).toArray 91)).alloc (.cells cZp.toArray 28)).alloc (.cells #[.int .i64 x.vNext, .string o.vWord, .int .i64 0, .slice none 0 0, .int .i64 0, .slice none 0 0] 73)) := (Below.refl _ _).alloc (Nat.le_refl _) _
   have hZ2 : Hid (HX (cOp 1 o) 91 w fs w.heap.size (w.heap.size + 1 + 1) (w.heap.size + 1) ((((w.alloc (.cells #[.int .i64 (x.vNext + 1), .int .i64 x.vDoc, .slice aN x.vNodes.length kN, .slice aO x.vObjs.length kO, .slice aG x.vGlobals.length kG] 28)).alloc (.cells (cOp 1 o).toArray 91)).alloc (.cells cZp.toArray 28)).alloc (.cells #[.int .i64 x.vNext, .string o.vWord, .int .i64 0, .slice none 0 0, .int .i64 0, .slice none 0 0] 73)) [.int .i64 (x.vNext + 1), .int .i64 x.vDoc, .slice aN x.vNodes.length kN, .slice aO x.vObjs.length kO, .slice aG x.vGlobals.length kG] { x with vNext := x.vNext + 1 } fs) := hZ1.out.below hqC
   have nb : Hid (Box ((((w.alloc (.cells #[.int .i64 (x.vNext + 1), .int .i64 x.vDoc, .slice aN x.vNodes.length kN, .slice aO x.vObjs.length kO, .slice aG x.vGlobals.length kG] 28)).alloc (.cells (cOp 1 o).toArray 91)).alloc (.cells cZp.toArray 28)).alloc (.cells #[.int .i64 x.vNext, .string o.vWord, .int .i64 0, .slice none 0 0, .int .i64 0, .slice none 0 0] 73)) (w.heap.size + 1 + 1 + 1) [.int .i64 x.vNext, .string o.vWord, .int .i64 0, .slice none 0 0, .int .i64 0, .slice none 0 0] 73) := by have q := Box.new (((w.alloc (.cells #[.int .i64 (x.vNext + 1), .int .i64 x.vDoc, .slice aN x.vNodes.length kN, .slice aO x.vObjs.length kO, .slice aG x.vGlobals.length kG] 28)).alloc (.cells (cOp 1 o).toArray 91)).alloc (.cells cZp.toArray 28)) [.int .i64 x.vNext, .string o.vWord, .int .i64 0, .slice none 0 0, .int .i64 0, .slice none 0 0] 73; rw [World.size_alloc, World.size_alloc, World.size_alloc] at q; exact q
   obtain ⟨bN, cN, hN0, hown0, hgrow0⟩ := hZ2.out.hb.hp.grownN
   have hN : Hid (GrowOwn 73 6 NodeP 0 ((((w.alloc (.cells #[.int .i64 (x.vNext + 1), .int .i64 x.vDoc, .slice aN x.vNodes.length kN, .slice aO x.vObjs.length kO, .slice aG x.vGlobals.length kG] 28)).alloc (.cells (cOp 1 o).toArray 91)).alloc (.cells cZp.toArray 28)).alloc (.cells #[.int .i64 x.vNext, .string o.vWord, .int .i64 0, .slice none 0 0, .int .i64 0, .slice none 0 0] 73)) (.slice aN x.vNodes.length kN) x.vNodes bN cN) := hN0
   have hgrow : Hid _ := hgrow0
   have hown : Hid _ := hown0
   have c0 := hZ0.out.hb.bH.cell 0 rfl
   have c2 := hZ0.out.hb.bH.cell 2 rfl
   have u0 := hZ0.out.hb.bH.unfrozen
   have o3 := hZ0.out.bq.cell 3 rfl
   have o0 := hZ0.out.bq.cell 0 rfl
   clear hqC hN0 hown0 hgrow0 o0
   go_enter Tryz.func122, Tryz.ntmps122
   go_upto_region 7 with (at_builtin; refine wpList_append_growP NodeP_stays rfl _ _ 24 rfl 0 iN _ 88 Tryz.underlying24 hiN.out heN.out.1 heN.out.2.1 heN.out.2.2 rfl (by decide) (y := ⟨x.vNext, o.vWord, 0, [], 0, []⟩) (fs := []) (cs := [.int .i64 x.vNext, .string o.vWord, .int .i64 0, .slice none 0 0, .int .i64 0, .slice none 0 0]) (v := .slice aN x.vNodes.length kN) rfl hN.out (Below.refl _ _) (Nat.zero_le _) ⟨w.heap.size + 1 + 1 + 1, 0, none⟩ 1 (by first | rfl | simp [go_sem]) rfl (by intro i u hu; match i, hu with | 0, hu => (simp at hu; subst hu; exact nb.out.cell 0 rfl) | 1, hu => (simp at hu; subst hu; exact nb.out.cell 1 rfl) | 2, hu => (simp at hu; subst hu; exact nb.out.cell 2 rfl) | 3, hu => (simp at hu; subst hu; exact nb.out.cell 3 rfl) | 4, hu => (simp at hu; subst hu; exact nb.out.cell 4 rfl) | 5, hu => (simp at hu; subst hu; exact nb.out.cell 5 rfl) | i + 6, hu => simp at hu) (by intro u hu; simp at hu; rcases hu with rfl | rfl | rfl | rfl | rfl | rfl <;> rfl) ⟨_, _, [], [], [], rfl, ⟨none, 0, rfl, ⟨Nat.zero_le _, Nat.zero_le _⟩, Or.inl ⟨rfl, rfl⟩⟩, GrowOwn.nil, (show InI x.vNext by have := hnx.out; unfold InI; omega), hfit.out.2.2.1, (show InI (0 : Int) by unfold InI; omega), (show InI (0 : Int) by unfold InI; omega), rfl⟩ List.nodup_nil (by simp) (by simp) (by have := hnl.out; unfold maxLen; omega) (by have := hnl.out; omega) ?_; intro gM cM2 w3 hgr3 hg3 hat3; obtain ⟨fs3, hp3, hs3, ho3⟩ := hgrow.out w3 gM _ cM2 _ _ hgr3 hg3 hat3; have hZ3 : Hid (HX (cOp 1 o) 91 w fs w.heap.size (w.heap.size + 1 + 1) (w.heap.size + 1) (w3.setCell ⟨w.heap.size, 2, none⟩ (.slice (some ⟨gM, 0, none⟩) (x.vNodes.length + 1) cM2)) [.int .i64 (x.vNext + 1), .int .i64 x.vDoc, .slice (some ⟨gM, 0, none⟩) (x.vNodes.length + 1) cM2, .slice aO x.vObjs.length kO, .slice aG x.vGlobals.length kG] (withNode x o.vWord) fs3) := hZ2.out.store hp3 hs3 ho3 rfl; have hno : Value.ownBlock (.slice aN x.vNodes.length kN) ≠ some w.heap.size := (fun e => (hZ2.out.hb.sub _ (hown.out _ e)).2.1 rfl); have bH3 : Hid (Box w3 w.heap.size [.int .i64 (x.vNext + 1), .int .i64 x.vDoc, .slice aN x.vNodes.length kN, .slice aO x.vObjs.length kO, .slice aG x.vGlobals.length kG] 28) := hZ2.out.hb.bH.grownP hg3 hno; have d2 := bH3.out.cell 2 rfl; have uf3 := bH3.out.unfrozen; clear hgr3 hg3 hat3 hno hp3 hs3 ho3 bH3)
   clear c0 c2 u0 d2 uf3 o3 hgrow hown hN nb hZ2 hZ1 hZ0 hw1 hiN heN
   generalize (w3.setCell ⟨w.heap.size, 2, none⟩ (.slice (some ⟨gM, 0, none⟩) (x.vNodes.length + 1) cM2)) = w4 at hZ3 ⊢
   obtain ⟨d0, d1, d2, d3, d4⟩ := fv5 hZ3.out.hb.bH
   go_wp2_with fail
   refine (l4New_any hZ3.out.hb.hp (x := (withNode x o.vWord)) (by show 0 ≤ x.vNext + 1 ∧ x.vNext + 1 ≤ 2000000000; omega) hol.out (by unfold InI; omega) (Or.inr (withNode_idx x o.vWord))).mono ?_
   rintro e w1 ⟨cs1, rfl, hr1⟩
   have hb1 : Hid (Box w1 w.heap.size [.int .i64 (x.vNext + 1), .int .i64 x.vDoc, .slice (some ⟨gM, 0, none⟩) (x.vNodes.length + 1) cM2, .slice aO x.vObjs.length kO, .slice aG x.vGlobals.length kG] 28) := by
    obtain ⟨fs1, hp1, hs1, ho1⟩ := hr1
    exact (ho1.keep hZ3.out.hb.bH.lt (fun q => (hZ3.out.hb.sub _ q).2.1 rfl)).trans hZ3.out.hb.bH
   obtain ⟨y, hy⟩ : ∃ y, makeH x o = y := ⟨_, rfl⟩
   rw [show newD (withNode x o.vWord) x.vNext = y from by rw [← hy]; exact hmH.out.symm] at hr1
   obtain ⟨aN1, kN1, aO1, kO1, aG1, kG1, rfl⟩ := hr1.form
   obtain ⟨fs2, hz2⟩ := hZ3.out.step rfl hr1
   have hZ2 : Hid (HX (cOp 1 o) 91 w fs w.heap.size (w.heap.size + 1 + 1) (w.heap.size + 1) (putCells w1 w.heap.size 0 (cHp y aN1 kN1 aO1 kO1 aG1 kG1)) (cHp y aN1 kN1 aO1 kO1 aG1 kG1) y fs2) := hz2
   have hgy : Hid (y.vGlobals.length ≤ 1000) := by show _ ≤ _; rw [← hy, make_globs]; exact hgl.out
   have hmk : Hid (makeD x o = { y with vGlobals := setD y.vGlobals o.vName (x.vNext + 1) }) := by show _ = _; unfold makeD; rw [hy, hmI.out]
   obtain ⟨s0, s1, s2, s3, s4⟩ := fv5 hb1.out
   have su := hb1.out.unfrozen
   clear hr1 hz2 hy d0 d1 d2 d3 d4 hZ3 hmH
   go_upto_region 12 with fail
   clear s0 s1 s2 s3 s4 su hb1
   simp only [putCells] at hZ2
   generalize (World.setCell (World.setCell (World.setCell (World.setCell (World.setCell w1 ⟨w.heap.size, 0, none⟩ (.int .i64 y.vNext)) ⟨w.heap.size, 0 + 1, none⟩ (.int .i64 y.vDoc)) ⟨w.heap.size, 0 + 1 + 1, none⟩ (.slice aN1 y.vNodes.length kN1)) ⟨w.heap.size, 0 + 1 + 1 + 1, none⟩ (.slice aO1 y.vObjs.length kO1)) ⟨w.heap.size, 0 + 1 + 1 + 1 + 1, none⟩ (.slice aG1 y.vGlobals.length kG1)) = w2 at hZ2 ⊢
   have d4 := hZ2.out.hb.bH.cell 4 rfl
   have o1 := hZ2.out.bq.cell 1 rfl
   go_wp2_with fail
   refine (l4Set_any hZ2.out.hb.hp.globs hgy.out hfit.out.1 hid.out).mono ?_
   rintro e w9 ⟨⟨v9, f9, rfl, hs9, hn9, hl9⟩, hb9⟩
   obtain ⟨aG9, kG9, rfl⟩ := hs9.form
   obtain ⟨fs9, hp9, hsub9⟩ := hZ2.out.hb.hp.glob (w1 := w9) (fun b hb => hb9.block b (hZ2.out.hb.hp.lt b hb)) hs9 hn9 hl9
   have hZ9 : Hid (HX (cOp 1 o) 91 w fs w.heap.size (w.heap.size + 1 + 1) (w.heap.size + 1) (w9.setCell ⟨w.heap.size, 4, none⟩ (.slice aG9 (setD y.vGlobals o.vName (x.vNext + 1)).length kG9)) [.int .i64 y.vNext, .int .i64 y.vDoc, .slice aN1 y.vNodes.length kN1, .slice aO1 y.vObjs.length kO1, .slice aG9 (setD y.vGlobals o.vName (x.vNext + 1)).length kG9] { y with vGlobals := setD y.vGlobals o.vName (x.vNext + 1) } fs9) := hZ2.out.store hp9 hsub9 (Out.of_below hb9) rfl
   have bg9 := (hZ2.out.hb.below hb9).bH.cell 4 rfl
   have uf9 := (hZ2.out.hb.below hb9).bH.unfrozen
   clear d4 o1 hs9 hn9 hl9 hb9 hp9 hsub9
   go_upto_region 13 with fail
   clear bg9 uf9
   generalize (w9.setCell ⟨w.heap.size, 4, none⟩ (.slice aG9 (setD y.vGlobals o.vName (x.vNext + 1)).length kG9)) = wz at hZ9 ⊢
   have hZf : Hid _ := hZ9.out.hb
   obtain ⟨d0, d1, d2, d3, d4⟩ := fv5 hZf.out.bH
   obtain ⟨z0, z1, z2, z3, z4⟩ := fv5 hZf.out.bR
   have uz := hZf.out.bR.unfrozen
   go_wp2_with fail
   have bF : Box (putCells wz (w.heap.size + 1 + 1) 0 [.int .i64 y.vNext, .int .i64 y.vDoc, .slice aN1 y.vNodes.length kN1, .slice aO1 y.vObjs.length kO1, .slice aG9 (setD y.vGlobals o.vName (x.vNext + 1)).length kG9]) (w.heap.size + 1 + 1) [.int .i64 y.vNext, .int .i64 y.vDoc, .slice aN1 y.vNodes.length kN1, .slice aO1 y.vObjs.length kO1, .slice aG9 (setD y.vGlobals o.vName (x.vNext + 1)).length kG9] 28 := Box.puts5 hZf.out.bR
   obtain ⟨g0, g1, g2, g3, g4⟩ := fv5 bF
   exact bodyPost_ret (v := .tuple #[.agg (List.toArray [.int .i64 y.vNext, .int .i64 y.vDoc, .slice aN1 y.vNodes.length kN1, .slice aO1 y.vObjs.length kO1, .slice aG9 (setD y.vGlobals o.vName (x.vNext + 1)).length kG9]), .int .i64 0]) (by simp only [putCells] at g0 g1 g2 g3 g4; simp [results, Tryz.results122, go_sem, g0, g1, g2, g3, g4]) rfl ⟨[.int .i64 y.vNext, .int .i64 y.vDoc, .slice aN1 y.vNodes.length kN1, .slice aO1 y.vObjs.length kO1, .slice aG9 (setD y.vGlobals o.vName (x.vNext + 1)).length kG9], rfl, by rw [hmk.out]; exact hZf.out.ret [.int .i64 y.vNext, .int .i64 y.vDoc, .slice aN1 y.vNodes.length kN1, .slice aO1 y.vObjs.length kO1, .slice aG9 (setD y.vGlobals o.vName (x.vNext + 1)).length kG9]⟩
 have hk1 : ¬ o.vKind = 1 := hk
 clear hk
 by_cases hk : o.vKind = 2
 · skip
   have hmH : Hid (makeH x o = newD x 0) := by show _ = _; unfold makeH; rw [if_neg hk1, if_pos hk]
   have hmI : Hid (makeId x o = x.vNext) := by show _ = _; unfold makeId; rw [if_neg hk1, if_pos hk]
   rw [hk]
   have hkh : Hid (o.vKind = 2) := hk
   clear hk
   have hZ0 : Hid (HX (cOp 2 o) 91 w fs w.heap.size (w.heap.size + 1 + 1) (w.heap.size + 1) (((w.alloc (.cells (cHp x aN kN aO kO aG kG).toArray 28)).alloc (.cells (cOp 2 o).toArray 91)).alloc (.cells cZp.toArray 28)) (cHp x aN kN aO kO aG kG) x fs) := HX.start hpx.out
   have hid : Hid (InI x.vNext) := by have := hnx.out; show InI _; unfold InI; omega
   have hnx1 := hnx.out
   skip
   go_enter Tryz.func122, Tryz.ntmps122
   obtain ⟨d0, d1, d2, d3, d4⟩ := fv5 hZ0.out.hb.bH
   go_wp2_with fail
   refine (l4New_any hZ0.out.hb.hp ⟨hnx1.1, by omega⟩ hol.out (by unfold InI; omega) (Or.inl rfl)).mono ?_
   rintro e w1 ⟨cs1, rfl, hr1⟩
   have hb1 : Hid (Box w1 w.heap.size (cHp x aN kN aO kO aG kG) 28) := by
    obtain ⟨fs1, hp1, hs1, ho1⟩ := hr1
    exact (ho1.keep hZ0.out.hb.bH.lt (fun q => (hZ0.out.hb.sub _ q).2.1 rfl)).trans hZ0.out.hb.bH
   obtain ⟨y, hy⟩ : ∃ y, makeH x o = y := ⟨_, rfl⟩
   rw [show newD x 0 = y from by rw [← hy]; exact hmH.out.symm] at hr1
   obtain ⟨aN1, kN1, aO1, kO1, aG1, kG1, rfl⟩ := hr1.form
   obtain ⟨fs2, hz2⟩ := hZ0.out.step rfl hr1
   have hZ2 : Hid (HX (cOp 2 o) 91 w fs w.heap.size (w.heap.size + 1 + 1) (w.heap.size + 1) (putCells w1 w.heap.size 0 (cHp y aN1 kN1 aO1 kO1 aG1 kG1)) (cHp y aN1 kN1 aO1 kO1 aG1 kG1) y fs2) := hz2
   have hgy : Hid (y.vGlobals.length ≤ 1000) := by show _ ≤ _; rw [← hy, make_globs]; exact hgl.out
   have hmk : Hid (makeD x o = { y with vGlobals := setD y.vGlobals o.vName x.vNext }) := by show _ = _; unfold makeD; rw [hy, hmI.out]
   obtain ⟨s0, s1, s2, s3, s4⟩ := fv5 hb1.out
   have su := hb1.out.unfrozen
   clear hr1 hz2 hy d0 d1 d2 d3 d4 hZ0 hmH
   go_upto_region 12 with fail
   clear s0 s1 s2 s3 s4 su hb1
   simp only [putCells] at hZ2
   generalize (World.setCell (World.setCell (World.setCell (World.setCell (World.setCell w1 ⟨w.heap.size, 0, none⟩ (.int .i64 y.vNext)) ⟨w.heap.size, 0 + 1, none⟩ (.int .i64 y.vDoc)) ⟨w.heap.size, 0 + 1 + 1, none⟩ (.slice aN1 y.vNodes.length kN1)) ⟨w.heap.size, 0 + 1 + 1 + 1, none⟩ (.slice aO1 y.vObjs.length kO1)) ⟨w.heap.size, 0 + 1 + 1 + 1 + 1, none⟩ (.slice aG1 y.vGlobals.length kG1)) = w2 at hZ2 ⊢
   have d4 := hZ2.out.hb.bH.cell 4 rfl
   have o1 := hZ2.out.bq.cell 1 rfl
   go_wp2_with fail
   refine (l4Set_any hZ2.out.hb.hp.globs hgy.out hfit.out.1 hid.out).mono ?_
   rintro e w9 ⟨⟨v9, f9, rfl, hs9, hn9, hl9⟩, hb9⟩
   obtain ⟨aG9, kG9, rfl⟩ := hs9.form
   obtain ⟨fs9, hp9, hsub9⟩ := hZ2.out.hb.hp.glob (w1 := w9) (fun b hb => hb9.block b (hZ2.out.hb.hp.lt b hb)) hs9 hn9 hl9
   have hZ9 : Hid (HX (cOp 2 o) 91 w fs w.heap.size (w.heap.size + 1 + 1) (w.heap.size + 1) (w9.setCell ⟨w.heap.size, 4, none⟩ (.slice aG9 (setD y.vGlobals o.vName x.vNext).length kG9)) [.int .i64 y.vNext, .int .i64 y.vDoc, .slice aN1 y.vNodes.length kN1, .slice aO1 y.vObjs.length kO1, .slice aG9 (setD y.vGlobals o.vName x.vNext).length kG9] { y with vGlobals := setD y.vGlobals o.vName x.vNext } fs9) := hZ2.out.store hp9 hsub9 (Out.of_below hb9) rfl
   have bg9 := (hZ2.out.hb.below hb9).bH.cell 4 rfl
   have uf9 := (hZ2.out.hb.below hb9).bH.unfrozen
   clear d4 o1 hs9 hn9 hl9 hb9 hp9 hsub9
   go_upto_region 13 with fail
   clear bg9 uf9
   generalize (w9.setCell ⟨w.heap.size, 4, none⟩ (.slice aG9 (setD y.vGlobals o.vName x.vNext).length kG9)) = wz at hZ9 ⊢
   have hZf : Hid _ := hZ9.out.hb
   obtain ⟨d0, d1, d2, d3, d4⟩ := fv5 hZf.out.bH
   obtain ⟨z0, z1, z2, z3, z4⟩ := fv5 hZf.out.bR
   have uz := hZf.out.bR.unfrozen
   go_wp2_with fail
   have bF : Box (putCells wz (w.heap.size + 1 + 1) 0 [.int .i64 y.vNext, .int .i64 y.vDoc, .slice aN1 y.vNodes.length kN1, .slice aO1 y.vObjs.length kO1, .slice aG9 (setD y.vGlobals o.vName x.vNext).length kG9]) (w.heap.size + 1 + 1) [.int .i64 y.vNext, .int .i64 y.vDoc, .slice aN1 y.vNodes.length kN1, .slice aO1 y.vObjs.length kO1, .slice aG9 (setD y.vGlobals o.vName x.vNext).length kG9] 28 := Box.puts5 hZf.out.bR
   obtain ⟨g0, g1, g2, g3, g4⟩ := fv5 bF
   exact bodyPost_ret (v := .tuple #[.agg (List.toArray [.int .i64 y.vNext, .int .i64 y.vDoc, .slice aN1 y.vNodes.length kN1, .slice aO1 y.vObjs.length kO1, .slice aG9 (setD y.vGlobals o.vName x.vNext).length kG9]), .int .i64 0]) (by simp only [putCells] at g0 g1 g2 g3 g4; simp [results, Tryz.results122, go_sem, g0, g1, g2, g3, g4]) rfl ⟨[.int .i64 y.vNext, .int .i64 y.vDoc, .slice aN1 y.vNodes.length kN1, .slice aO1 y.vObjs.length kO1, .slice aG9 (setD y.vGlobals o.vName x.vNext).length kG9], rfl, by rw [hmk.out]; exact hZf.out.ret [.int .i64 y.vNext, .int .i64 y.vDoc, .slice aN1 y.vNodes.length kN1, .slice aO1 y.vObjs.length kO1, .slice aG9 (setD y.vGlobals o.vName x.vNext).length kG9]⟩
 have hk2 : ¬ o.vKind = 2 := hk
 clear hk
 have hk : o.vKind = 10 := by omega
 · skip
   have hmH : Hid (makeH x o = (wrapD x x.vDoc).1) := by show _ = _; unfold makeH; rw [if_neg hk1, if_neg hk2, if_pos hk]
   have hmI : Hid (makeId x o = (wrapD x x.vDoc).2) := by show _ = _; unfold makeId; rw [if_neg hk1, if_neg hk2, if_pos hk]
   have hdoc := hdc.out (Or.inr (Or.inr hk))
   rw [hk]
   have hkh : Hid (o.vKind = 10) := hk
   clear hk
   have hZ0 : Hid (HX (cOp 10 o) 91 w fs w.heap.size (w.heap.size + 1 + 1) (w.heap.size + 1) (((w.alloc (.cells (cHp x aN kN aO kO aG kG).toArray 28)).alloc (.cells (cOp 10 o).toArray 91)).alloc (.cells cZp.toArray 28)) (cHp x aN kN aO kO aG kG) x fs) := HX.start hpx.out
   have hnx1 := hnx.out
   have hid : Hid (InI (wrapD x x.vDoc).2) := hwi.out
   skip
   go_enter Tryz.func122, Tryz.ntmps122
   obtain ⟨d0, d1, d2, d3, d4⟩ := fv5 hZ0.out.hb.bH
   go_wp2_with fail
   refine (l4Wrap_any hZ0.out.hb.hp ⟨hnx1.1, by omega⟩ hol.out hdi.out hdoc).mono ?_
   rintro e w1 ⟨cs1, rfl, hr1⟩
   have hb1 : Hid (Box w1 w.heap.size (cHp x aN kN aO kO aG kG) 28) := by
    obtain ⟨fs1, hp1, hs1, ho1⟩ := hr1
    exact (ho1.keep hZ0.out.hb.bH.lt (fun q => (hZ0.out.hb.sub _ q).2.1 rfl)).trans hZ0.out.hb.bH
   obtain ⟨y, hy⟩ : ∃ y, makeH x o = y := ⟨_, rfl⟩
   rw [show (wrapD x x.vDoc).1 = y from by rw [← hy]; exact hmH.out.symm] at hr1
   obtain ⟨aN1, kN1, aO1, kO1, aG1, kG1, rfl⟩ := hr1.form
   obtain ⟨fs2, hz2⟩ := hZ0.out.step rfl hr1
   have hZ2 : Hid (HX (cOp 10 o) 91 w fs w.heap.size (w.heap.size + 1 + 1) (w.heap.size + 1) (putCells w1 w.heap.size 0 (cHp y aN1 kN1 aO1 kO1 aG1 kG1)) (cHp y aN1 kN1 aO1 kO1 aG1 kG1) y fs2) := hz2
   have hgy : Hid (y.vGlobals.length ≤ 1000) := by show _ ≤ _; rw [← hy, make_globs]; exact hgl.out
   have hmk : Hid (makeD x o = { y with vGlobals := setD y.vGlobals o.vName (wrapD x x.vDoc).2 }) := by show _ = _; unfold makeD; rw [hy, hmI.out]
   obtain ⟨s0, s1, s2, s3, s4⟩ := fv5 hb1.out
   have su := hb1.out.unfrozen
   clear hr1 hz2 hy d0 d1 d2 d3 d4 hZ0 hmH
   go_upto_region 12 with fail
   clear s0 s1 s2 s3 s4 su hb1
   simp only [putCells] at hZ2
   generalize (World.setCell (World.setCell (World.setCell (World.setCell (World.setCell w1 ⟨w.heap.size, 0, none⟩ (.int .i64 y.vNext)) ⟨w.heap.size, 0 + 1, none⟩ (.int .i64 y.vDoc)) ⟨w.heap.size, 0 + 1 + 1, none⟩ (.slice aN1 y.vNodes.length kN1)) ⟨w.heap.size, 0 + 1 + 1 + 1, none⟩ (.slice aO1 y.vObjs.length kO1)) ⟨w.heap.size, 0 + 1 + 1 + 1 + 1, none⟩ (.slice aG1 y.vGlobals.length kG1)) = w2 at hZ2 ⊢
   have d4 := hZ2.out.hb.bH.cell 4 rfl
   have o1 := hZ2.out.bq.cell 1 rfl
   go_wp2_with fail
   refine (l4Set_any hZ2.out.hb.hp.globs hgy.out hfit.out.1 hid.out).mono ?_
   rintro e w9 ⟨⟨v9, f9, rfl, hs9, hn9, hl9⟩, hb9⟩
   obtain ⟨aG9, kG9, rfl⟩ := hs9.form
   obtain ⟨fs9, hp9, hsub9⟩ := hZ2.out.hb.hp.glob (w1 := w9) (fun b hb => hb9.block b (hZ2.out.hb.hp.lt b hb)) hs9 hn9 hl9
   have hZ9 : Hid (HX (cOp 10 o) 91 w fs w.heap.size (w.heap.size + 1 + 1) (w.heap.size + 1) (w9.setCell ⟨w.heap.size, 4, none⟩ (.slice aG9 (setD y.vGlobals o.vName (wrapD x x.vDoc).2).length kG9)) [.int .i64 y.vNext, .int .i64 y.vDoc, .slice aN1 y.vNodes.length kN1, .slice aO1 y.vObjs.length kO1, .slice aG9 (setD y.vGlobals o.vName (wrapD x x.vDoc).2).length kG9] { y with vGlobals := setD y.vGlobals o.vName (wrapD x x.vDoc).2 } fs9) := hZ2.out.store hp9 hsub9 (Out.of_below hb9) rfl
   have bg9 := (hZ2.out.hb.below hb9).bH.cell 4 rfl
   have uf9 := (hZ2.out.hb.below hb9).bH.unfrozen
   clear d4 o1 hs9 hn9 hl9 hb9 hp9 hsub9
   go_upto_region 13 with fail
   clear bg9 uf9
   generalize (w9.setCell ⟨w.heap.size, 4, none⟩ (.slice aG9 (setD y.vGlobals o.vName (wrapD x x.vDoc).2).length kG9)) = wz at hZ9 ⊢
   have hZf : Hid _ := hZ9.out.hb
   obtain ⟨d0, d1, d2, d3, d4⟩ := fv5 hZf.out.bH
   obtain ⟨z0, z1, z2, z3, z4⟩ := fv5 hZf.out.bR
   have uz := hZf.out.bR.unfrozen
   go_wp2_with fail
   have bF : Box (putCells wz (w.heap.size + 1 + 1) 0 [.int .i64 y.vNext, .int .i64 y.vDoc, .slice aN1 y.vNodes.length kN1, .slice aO1 y.vObjs.length kO1, .slice aG9 (setD y.vGlobals o.vName (wrapD x x.vDoc).2).length kG9]) (w.heap.size + 1 + 1) [.int .i64 y.vNext, .int .i64 y.vDoc, .slice aN1 y.vNodes.length kN1, .slice aO1 y.vObjs.length kO1, .slice aG9 (setD y.vGlobals o.vName (wrapD x x.vDoc).2).length kG9] 28 := Box.puts5 hZf.out.bR
   obtain ⟨g0, g1, g2, g3, g4⟩ := fv5 bF
   exact bodyPost_ret (v := .tuple #[.agg (List.toArray [.int .i64 y.vNext, .int .i64 y.vDoc, .slice aN1 y.vNodes.length kN1, .slice aO1 y.vObjs.length kO1, .slice aG9 (setD y.vGlobals o.vName (wrapD x x.vDoc).2).length kG9]), .int .i64 0]) (by simp only [putCells] at g0 g1 g2 g3 g4; simp [results, Tryz.results122, go_sem, g0, g1, g2, g3, g4]) rfl ⟨[.int .i64 y.vNext, .int .i64 y.vDoc, .slice aN1 y.vNodes.length kN1, .slice aO1 y.vObjs.length kO1, .slice aG9 (setD y.vGlobals o.vName (wrapD x x.vDoc).2).length kG9], rfl, by rw [hmk.out]; exact hZf.out.ret [.int .i64 y.vNext, .int .i64 y.vDoc, .slice aN1 y.vNodes.length kN1, .slice aO1 y.vObjs.length kO1, .slice aG9 (setD y.vGlobals o.vName (wrapD x x.vDoc).2).length kG9]⟩
end Go.Proofs.YtdnembnlomnceaaGreat
