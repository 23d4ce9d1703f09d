/- The program's list of Ids out of an iterator over nodes, walked. -/
import Derived.Test.YtdnembnlomnceaaAboveWalks
import Derived.Maps.AppendAt
namespace Go.Proofs.Ytdnembnlomnceaa
open Go.RowKit Go.Shelf
attribute [local go_sem] Oper.semAt_some
theorem KeepsT.grown {T e : TypeId} {W w1 : World} {base size n : Nat} {v : Value} {xs : List Value} (hT : e ≠ T) (hr : W.ownsRow base e size v n xs) (hg : W.grownBy w1 v.ownBlock) : KeepsT T W w1 := fun b cs fr h => by
 have hne : some b ≠ v.ownBlock := by
  intro q
  rcases hr.2 with ⟨rfl, _⟩ | ⟨g, cap, cur, rfl, _, hh, _⟩
  · cases q
  · simp only [Value.ownBlock, Option.some.injEq] at q
    subst q
    rw [hh] at h
    injection h with h
    injection h with _ h2 _
    exact hT h2
 exact (hg.block b (Array.getElem?_eq_some_iff.1 h).1 hne).trans h
theorem infoInt : ((Try.prog.info? 2).map fun i => (i.zero, i.size, i.bytes)) = some (some (.int .i64 0), 1, 8) := by kernel_rfl
set_option maxRecDepth 100000 in
set_option maxHeartbeats 4000000 in
theorem idsOf_in (F : Fence) (n : Nat) (h1 : F.fn 51) (hro : F.round = none) (hn : 3 ≤ n) (gf : Nat) (lb : Array Value) (hf : F.fn gf) (eg : ∀ args w, (callFunc gf args).run Try.prog w = .ok (.enter gf args) w) (S Sp : List NodeV → Prop) (N : Nat) (hN : N ≤ 1048576) (w : World)
 (hseq : SeqStopsK F (n - 1) Try.prog gf lb NodeV.encs (Kp w.heap.size) S Sp N w) :
 CallsIn F n Try.prog 51 #[.func (.func gf) #[] lb] w fun e W' => (∃ v ys, e = .returned v ∧ S ys ∧ W'.ownsRow w.heap.size 2 1 v ys.length (ys.map fun x => .int .i64 x.id)) ∧ Below w.heap.size w W' := by
 have hn1 : 1 ≤ n := by omega
 obtain ⟨i0, hi, hz0, hz1, hz2⟩ := info_parts infoInt
 refine callsIn_of_wp_marks Try.func51 rfl h1 ?_ hro
 simp only [Try.ntmps51, List.size_toArray, List.length_cons, List.length_nil, Nat.reduceAdd, Nat.reduceSub, Array.replicate_succ, Array.replicate_zero, List.push_toArray, List.append_toArray, List.nil_append, List.cons_append]
 gi_wp2
 have bV : Boxed (w.alloc (.cells #[.slice none 0 0] 40)) w.heap.size 40 (.slice none 0 0) := Boxed.new w 40 (.slice none 0 0)
 have hB0 : Below w.heap.size w (w.alloc (.cells #[.slice none 0 0] 40)) := (Below.refl _ _).alloc (Nat.le_refl _) _
 have hsz : (w.alloc (.cells #[.slice none 0 0] 40)).heap.size = w.heap.size + 1 := by simp
 obtain ⟨W0, hW0⟩ : ∃ W0, w.alloc (.cells #[.slice none 0 0] 40) = W0 := ⟨_, rfl⟩
 rw [hW0] at bV hB0 hsz ⊢
 clear hW0
 refine wpIn_rangeFunc_ownH hro hn1 (gf := gf) (lb := lb) rfl hf eg hseq Kp.trans (Kp.put (by omega)) hB0 (fun _ => rfl)
  (fun pre W => (∃ v, Boxed W w.heap.size 40 v ∧ W.ownsRow w.heap.size 2 1 v pre.length (pre.map fun x => .int .i64 x.id) ∧ True) ∧ Below w.heap.size w W)
  (fun _ _ _ => False)
  (OwnFrom.and (Own.from (holdsRow_own w.heap.size w.heap.size 40 2 1 (fun pre : List NodeV => pre.length) (fun pre : List NodeV => pre.map fun x => .int .i64 x.id) (fun _ _ => True)) _) (ownFrom_below (Nat.le_refl _) (by omega)))
  (fun _ _ _ _ _ hs _ _ => hs)
  ⟨⟨_, bV, World.ownsRow_nil _ _ _ _, trivial⟩, hB0⟩
  (fun x a' W => ∃ Bv, w.heap.size < Bv ∧ Box W Bv x.cells 43 ∧ a' = { tmps := #[.func (.func gf) #[] lb, undef, .slice none 0 0, .pointer (some ⟨w.heap.size, 0, none⟩), .pointer (some ⟨Bv, 0, none⟩), .func (.func gf) #[] lb, .agg #[.int .i64 x.id, .string x.tag, .int .i64 x.parent, .slice x.p3 x.n3 x.c3, .int .i64 x.wr, .slice x.p5 x.n5 x.c5], undef, undef, undef, undef, undef, undef], defers := [] })
  (fun x a' _ X Y row hs hg hr => by obtain ⟨Bx, q1, q2, q3⟩ := hs; exact ⟨Bx, q1, box_own Bx 43 (fun (_ : Unit) => x.cells) () X Y row q2 hg (fun r e => (hr r e).2), q3⟩)
  ?assign ?body ?done ?stop
 case assign =>
  rintro l pre x W K ⟨⟨v, bV1, hr1, _⟩, hB1⟩ hK
  unfold NodeV.encs
  have hs1 := hB1.size
  have hl1 := bV1.lt
  gi_wp2
  exact hK _ _ ((KeepsOthers.alloc _ _).from _) ⟨(Below.refl _ W).alloc hs1 _, KeepsT.alloc _ _⟩ ⟨⟨v, bV1.alloc _, hr1.alloc _, trivial⟩, hB1.alloc hs1 _⟩ ⟨W.heap.size, by omega, Box.new W x.cells 43, rfl⟩
 case body =>
  rintro l pre x a' W hl ⟨r, hr⟩ ⟨⟨v, hv, hrow, _⟩, hB⟩ ⟨Bv, hBv, bX, rfl⟩ hlt
  have hs1 := hB.size
  have cV := bX.cell 0 rfl
  have cB := hv.cell
  gi_wp2_with (gi_at_builtin; refine wpListIn_append_own _ rfl _ _ 40 rfl w.heap.size 2 i0 (.int .i64 0) 1 8 Try.underlying40 hi hz0 hz1 hz2 rfl (by decide) _ _ _ rfl (hrow.alloc _) ⟨W.heap.size, 0, none⟩ 1 1 [.int .i64 x.id] rfl rfl (cell_one_new _ _ _) (by simp [Value.oneCell']) (by unfold maxLen; omega) (by omega) (by have := hB.size; simp; omega) ?_; intro v' w1 hown' hgrow _; obtain ⟨g', cap', rfl⟩ := ownsRow_succ hown'; obtain ⟨hv1, hv2, hr2, hk2, hb2⟩ := hv.appended (by decide) hrow hB.size (Nat.le_refl _) hown' hgrow; have hc1 := hv1.cell; have hf1 := hv1.frozen)
  have hg2 : (W.alloc (.cells #[.int .i64 x.id] 2)).grownBy w1 v.ownBlock := hgrow
  refine ⟨hk2.from _, ⟨hb2, (KeepsT.alloc W _).trans ((KeepsT.grown (by decide) (hrow.alloc _) hg2).trans (KeepsT.set hv1 (by decide) _))⟩, ⟨_, hv2, ?_, trivial⟩, hB.trans hb2⟩
  simpa using hr2
 case done =>
  rintro D ys W hD hS ⟨⟨v, hv, hrow, _⟩, hB⟩ hK
  have cB := hv.cell
  gi_wp2
  refine ⟨by simp, .inl ⟨_, _, rfl, run_takeDeferred hK, ?_⟩⟩
  exact ⟨v, by simp [results, Try.f51, go_sem], ⟨v, ys, rfl, hS, ownsRow_putObj hrow _ hK rfl⟩, hB.trans (belowK_b (w := w) (Nat.le_refl _) W D _ _ (by omega) hK rfl rfl)⟩
 case stop =>
  rintro D c pre W _ _ h _
  exact h.elim
end Go.Proofs.Ytdnembnlomnceaa
