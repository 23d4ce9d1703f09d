/- The program's way up a heap, an iterator, and whether a node is on it: walked. -/
import Derived.RangeFuncNested
import Derived.RangeFuncBound
import Derived.RangeFuncCalls
import Derived.RangeFuncLeaves
import Derived.Shelf.Abstract
import Derived.Shelf.RegionOpen
import Derived.WalkKit
import Derived.OwnWalkIn
import Derived.TacticsInMore
import Derived.LoopNIn
import Derived.LoopIn
import Derived.Test.YtdnembnlomnceaaUpPlain
import Derived.Test.YtdnembnlomnceaaImplRight
namespace Go.Proofs.Ytdnembnlomnceaa
open Go.RowKit Go.Shelf
attribute [local go_sem] Oper.semAt_some
/-- a node as the program hands it on -/
structure NodeV where
 id : Int
 tag : ByteArray
 parent : Int
 p3 : Option Addr
 n3 : Nat
 c3 : Nat
 wr : Int
 p5 : Option Addr
 n5 : Nat
 c5 : Nat
def NodeV.cells (x : NodeV) : List Value := [.int .i64 x.id, .string x.tag, .int .i64 x.parent, .slice x.p3 x.n3 x.c3, .int .i64 x.wr, .slice x.p5 x.n5 x.c5]
def NodeV.encs (x : NodeV) : Array Value := #[.agg #[.int .i64 x.id, .string x.tag, .int .i64 x.parent, .slice x.p3 x.n3 x.c3, .int .i64 x.wr, .slice x.p5 x.n5 x.c5]]
/-- the nodes of an index, told in an elder world -/
def MapIn (w0 w : World) (lo bn : Nat) (h : HeapD) : Prop := ∃ es clock, w.heap[bn]? = some (.map es clock) ∧ Ents NodeD.vId NodeAt w0 lo es.toList h.vNodes
theorem MapIn.below {w0 w w' : World} {lo bn B : Nat} {h : HeapD} (hm : MapIn w0 w lo bn h) (hb : Below B w w') (hB : bn < B) : MapIn w0 w' lo bn h := by
 obtain ⟨es, c, h1, h2⟩ := hm
 exact ⟨es, c, (hb.block _ hB).trans h1, h2⟩
/-- what a lookup has told -/
def LookIs (w0 : World) (lo : Nat) (h : HeapD) (id : Int) (v : NodeV) (b : Bool) : Prop := (b = false ∧ nodeAt h id = none) ∨ (b = true ∧ ∃ x, nodeAt h id = some x ∧ x.vId = id ∧ v.id = id ∧ v.parent = x.vParent ∧ NodeAt w0 lo v.cells x)
theorem run_lookN {w0 w : World} {lo bn : Nat} {h : HeapD} (hm : MapIn w0 w lo bn h) (id : Int) :
 ∃ (v : NodeV) (b : Bool), (Instr.lookup 74 (.map (some bn)) (.int .i64 id) true).run Try.prog w = .ok (.tuple #[.agg #[.int .i64 v.id, .string v.tag, .int .i64 v.parent, .slice v.p3 v.n3 v.c3, .int .i64 v.wr, .slice v.p5 v.n5 v.c5], .bool b]) w ∧ LookIs w0 lo h id v b := by
 obtain ⟨es, clock, h1, h2⟩ := hm
 obtain ⟨i, hi, hz⟩ := Option.map_eq_some_iff.1 zeroN
 have hc : ∀ e, (Instr.checkKey e 10000 2 (.int .i64 id)).run Try.prog w = .ok () w := fun e => MapKept.run_checkKey (k := .int .i64 id) Try.underlying2 (by simp [MapKept.IsKey]) e 9999
 rcases find_ents (id := id) es.toList h.vNodes 0 h2 with ⟨g1, g2⟩ | ⟨x, i', cs, g1, g2, g3⟩
 · refine ⟨⟨0, ByteArray.empty, 0, none, 0, 0, 0, none, 0, 0⟩, false, ?_, Or.inl ⟨rfl, g1⟩⟩
   simp [Instr.lookup, run_underlying Try.underlying74, MapKept.run_getObj_map h1, hc, MapKept.run_findKey Try.underlying2 g2, Result.andThen, zeroValue, typeInfo, hi, hz]
 · have hid := (get_mem _ _ g1).2
   obtain ⟨k3, k5, rfl, s3, s5, r⟩ := g3
   obtain ⟨a3, c3, rfl⟩ := s3.form
   obtain ⟨a5, c5, rfl⟩ := s5.form
   refine ⟨⟨x.vId, x.vTag, x.vParent, a3, x.vKids.length, c3, x.vWrapper, a5, x.vListeners.length, c5⟩, true, ?_, Or.inr ⟨rfl, x, g1, hid, hid, rfl, ⟨_, _, rfl, s3, s5, r⟩⟩⟩
   simp [Instr.lookup, run_underlying Try.underlying74, MapKept.run_getObj_map h1, hc, MapKept.run_findKey Try.underlying2 g2, Result.andThen]
theorem upL_eq {h : HeapD} (hz : nodeAt h 0 = none) {i : Int} {x : NodeD} (hx : nodeAt h i = some x) (hu : upF h h.vNodes.length i = true) : upL h h.vNodes.length i = i :: upL h h.vNodes.length x.vParent := by
 have hi : ¬ i = 0 := by intro e; subst e; rw [hz] at hx; cases hx
 cases hl : h.vNodes.length with
 | zero => rw [hl, upF_full h hi] at hu; cases hu
 | succ m =>
  rw [hl, upF_step h hi hx] at hu
  rw [upL_some hx, upL_more hz m _ hu (m + 1) (by omega)]
/-- of the blocks with elements of one type none has turned -/
def KeepsT (T : TypeId) (W W' : World) : Prop := ∀ (b : Nat) (cs : Array Value) (fr : Nat × Nat), W.heap[b]? = some (Obj.cells cs T fr) → W'.heap[b]? = some (Obj.cells cs T fr)
theorem KeepsT.refl (T : TypeId) (W : World) : KeepsT T W W := fun _ _ _ h => h
theorem KeepsT.trans {T : TypeId} {A B C : World} (h : KeepsT T A B) (k : KeepsT T B C) : KeepsT T A C := fun b cs fr e => k b cs fr (h b cs fr e)
theorem KeepsT.alloc {T : TypeId} (W : World) (o : Obj) : KeepsT T W (W.alloc o) := fun b _ _ e => (Below.heap_alloc W o b (Array.getElem?_eq_some_iff.1 e).1).trans e
theorem KeepsT.set {T T' : TypeId} {W : World} {g i : Nat} {C : Array Value} {fr : Nat × Nat} (h : W.heap[g]? = some (.cells C T' fr)) (hT : T' ≠ T) (v : Value) : KeepsT T W (W.setCell ⟨g, i, none⟩ v) := fun b cs fr' e => by
 have hne : b ≠ g := by intro q; subst q; rw [h] at e; injection e with e; injection e with _ e2 _; exact hT e2
 exact (set_other hne v).trans e
theorem KeepsT.put {T : TypeId} {W : World} {l : Nat} {o : Obj} (h : W.heap[l]? = some o) (ho : o.isCells = false) (o' : Obj) : KeepsT T W (W.putObj l o') := fun b cs fr e => by
 have hne : b ≠ l := by intro q; subst q; rw [h] at e; injection e with e; subst e; cases ho
 exact (World.putObj_heap_other hne).trans e
/-- what a round keeps -/
def Kp (n₀ : Nat) (W W' : World) : Prop := Below n₀ W W' ∧ KeepsT 43 W W'
theorem Kp.trans {n₀ : Nat} {A B C : World} (h : Kp n₀ A B) (k : Kp n₀ B C) : Kp n₀ A C := ⟨h.1.trans k.1, h.2.trans k.2⟩
theorem Kp.put {n₀ : Nat} {w : World} (hn : n₀ ≤ w.heap.size) (W : World) (l : Nat) (o o' : Obj) (hl : w.heap.size ≤ l) (h : W.heap[l]? = some o) (h1 : o.isCells = false) (h2 : o.isWalk = false) : Kp n₀ W (W.putObj l o') := ⟨belowK_b hn W l o o' hl h h1 h2, KeepsT.put h h1 o'⟩
theorem box_own {β : Type} (B : Nat) (T : TypeId) (f : β → List Value) : Own (fun s W => Box W B (f s) T) := fun s X Y row hs hg hrow => by
 have hne : some B ≠ row := fun e' => by obtain ⟨o, ho, hc⟩ := hrow B e'.symm; rw [show X.heap[B]? = _ from hs] at ho; cases ho; cases hc
 exact (hg.block B hs.lt hne).trans hs
/-- how many are still to come, read off the frame and the world -/
def leftUp (h : HeapD) (W : World) : Value → Value → Nat
 | .pointer (some a), .bool true => match W.cell? a with
  | some (.int _ i) => (upL h h.vNodes.length i).length
  | _ => 0
 | _, _ => 0
theorem leftUp_is {h : HeapD} {W : World} {g : Nat} {v : NodeV} {i : Int} (hB : Box W g v.cells 43) (hv : v.id = i) : leftUp h W (.pointer (some ⟨g, 0, none⟩)) (.bool true) = (upL h h.vNodes.length i).length := by
 have := hB.cell 0 (v := .int .i64 v.id) rfl
 simp [leftUp, this, hv]
theorem leftUp_le {w0 : World} {lo : Nat} {h : HeapD} {W : World} {g : Nat} {v : NodeV} {b : Bool} {i : Int} (hB : Box W g v.cells 43) (hl : LookIs w0 lo h i v b) : leftUp h W (.pointer (some ⟨g, 0, none⟩)) (.bool b) ≤ (upL h h.vNodes.length i).length := by
 rcases hl with ⟨rfl, _⟩ | ⟨rfl, x, _, _, hv, _⟩
 · simp [leftUp]
 · rw [leftUp_is hB hv]; exact Nat.le_refl _
set_option maxRecDepth 100000 in
set_option maxHeartbeats 2000000 in
theorem above1_in (F : Fence) (n : Nat) (hf : F.fn 75) (hro : F.round = none) (hn : 1 ≤ n) (l Bx Bi n₀ bn bo lo : Nat) (w0 : World) (h : HeapD) (id : Int) (hz : nodeAt h 0 = none) (hup : ∀ i x, nodeAt h i = some x → upF h h.vNodes.length i = true) (J Jx : List NodeV → World → Prop)
 (hY : ∀ pre x W, J pre W → pre.length < (upL h h.vNodes.length id).length → YieldAt F (n - 1) Try.prog l (NodeV.encs x) W fun e W' =>
  (e = .returned (.bool true) ∧ J (pre ++ [x]) W' ∧ Kp n₀ W W') ∨ (e = .returned (.bool false) ∧ Jx (pre ++ [x]) W'))
 (W : World) (hJ : AbidesFrom W.heap.size J) (bX : Box W Bx [.map (some bn), .map (some bo)] 77) (bI : Box W Bi [.int .i64 id] 2) (hM : MapIn w0 W lo bn h) (hx : Bx < n₀) (hb : bn < n₀) (hn₀ : n₀ ≤ W.heap.size) (h0 : J [] W) :
 CallsIn F n Try.prog 75 #[.func (.yield l) #[] #[], .pointer (some ⟨Bx, 0, none⟩), .pointer (some ⟨Bi, 0, none⟩)] W fun e W' => (∃ v, e = .returned v) ∧
  ((∃ ys, ys.map NodeV.id = upL h h.vNodes.length id ∧ J ys W') ∨ (∃ pre, pre.map NodeV.id <+: upL h h.vNodes.length id ∧ Jx pre W')) := by
 have hlook := run_lookN hM id
 obtain ⟨v, b, hrun, hlk⟩ := hlook
 have hlk' : Hid (LookIs w0 lo h id v b) := hlk
 have hY' : Hid _ := hY
 have hup' : Hid _ := hup
 have x0 := bX.cell 0 rfl
 have i0 := bI.cell 0 rfl
 have bX' : Hid (Box W Bx [.map (some bn), .map (some bo)] 77) := bX
 have hM' : Hid (MapIn w0 W lo bn h) := hM
 clear hlk hY hup bX bI hM
 refine callsIn_of_wp Try.func75 rfl hf ?_ hro
 simp only [Try.ntmps75, List.size_toArray, List.length_cons, List.length_nil, Nat.reduceAdd, Nat.reduceSub, Array.replicate_succ, Array.replicate_zero, List.push_toArray, List.append_toArray, List.nil_append, List.cons_append]
 gi_wp2
 gi_loopw [4, 5] (fun p q wr => ∃ (pre : List NodeV) (g : Nat) (v : NodeV) (b : Bool) (i : Int), p = .pointer (some ⟨g, 0, none⟩) ∧ q = .bool b ∧ Hid (Box wr g v.cells 43) ∧ Hid (LookIs w0 lo h i v b) ∧ Hid (upL h h.vNodes.length id = pre.map NodeV.id ++ upL h h.vNodes.length i) ∧ Hid (J pre wr) ∧ Hid (Below n₀ W wr)) (fun p q wr => leftUp h wr p q)
 case atStart => exact ⟨[], W.heap.size, v, b, id, rfl, rfl, Box.new W v.cells 43, hlk', rfl, hJ _ _ _ none h0 (World.grownBy_alloc W _ none) (fun r e => by cases e), (Below.refl _ _).alloc hn₀ _⟩
 case round =>
  obtain ⟨pre, g, v, b, i, rfl, rfl, bG, hlk, hpre, hJs, hB⟩ := hrel
  cases b with
  | false =>
   have HD : Hid (pre.map NodeV.id = upL h h.vNodes.length id) := by
    show _ = _
    rcases hlk.out with ⟨_, hn⟩ | ⟨e, _⟩
    · rw [hpre.out, upL_none hn, List.append_nil]
    · cases e
   gi_wp2
   go_end0
   exact ⟨⟨_, rfl⟩, .inl ⟨pre, HD.out, hJs.out⟩⟩
  | true =>
   obtain ⟨x, hx1, hx2, hx3, hx4, hx5⟩ : ∃ x, nodeAt h i = some x ∧ x.vId = i ∧ v.id = i ∧ v.parent = x.vParent ∧ NodeAt w0 lo v.cells x := by
    rcases hlk.out with ⟨e, _⟩ | ⟨_, r⟩
    · cases e
    · exact r
   have hU : Hid (upL h h.vNodes.length i = i :: upL h h.vNodes.length v.parent) := by show _ = _; rw [hx4]; exact upL_eq hz hx1 (hup'.out i x hx1)
   have hlen : pre.length < (upL h h.vNodes.length id).length := by rw [hpre.out, hU.out]; simp
   obtain ⟨fn, tmps, assign, body, hy, hR⟩ := hY'.out pre v wr hJs.out hlen
   unfold NodeV.encs at hy
   have c0 := bG.out.cell 0 rfl
   have c1 := bG.out.cell 1 rfl
   have c2 := bG.out.cell 2 rfl
   have c3 := bG.out.cell 3 rfl
   have c4 := bG.out.cell 4 rfl
   have c5 := bG.out.cell 5 rfl
   have hv : Hid (v.id = i) := hx3
   clear hlen hx1 hx2 hx3 hx4 hx5
   gi_wp2
   refine hR.mono ?_
   rintro e W3 (⟨rfl, hJ3, hk3⟩ | ⟨rfl, hJx3⟩)
   · have bG3 : Box W3 g v.cells 43 := hk3.2 _ _ _ bG.out
     have hB3 : Hid (Below n₀ W W3) := hB.out.trans hk3.1
     have y0 := ((bX'.out.below hB3.out hx).alloc (.cells #[.int .i64 v.id, .string v.tag, .int .i64 v.parent, .slice v.p3 v.n3 v.c3, .int .i64 v.wr, .slice v.p5 v.n5 v.c5] 43)).cell 0 rfl
     have d0 := bG3.cell 0 rfl
     have d1 := bG3.cell 1 rfl
     have d2 := bG3.cell 2 rfl
     have d3 := bG3.cell 3 rfl
     have d4 := bG3.cell 4 rfl
     have d5 := bG3.cell 5 rfl
     have hs3 : n₀ ≤ W3.heap.size := Nat.le_trans hn₀ hB3.out.size
     obtain ⟨v', b', hrun', hlk2⟩ := run_lookN (w := W3.alloc (.cells #[.int .i64 v.id, .string v.tag, .int .i64 v.parent, .slice v.p3 v.n3 v.c3, .int .i64 v.wr, .slice v.p5 v.n5 v.c5] 43)) (hM'.out.below (hB3.out.alloc hs3 _) hb) v.parent
     have hlk2' : Hid (LookIs w0 lo h v.parent v' b') := hlk2
     have hJ3' : Hid _ := hJ3
     clear bG3 hk3 hlk2 hJ3 c0 c1 c2 c3 c4 c5 hy
     gi_wp2
     go_roundw
     case rel =>
      refine ⟨pre ++ [v], W3.heap.size, v', b', v.parent, rfl, rfl, Box.new W3 v'.cells 43, hlk2', ?_, hJ _ _ _ none hJ3'.out (World.grownBy_alloc W3 _ none) (fun r e => by cases e), hB3.out.alloc hs3 _⟩
      show _ = _
      rw [hpre.out, hU.out, List.map_append, List.map_cons, List.map_nil, hv.out]; simp
     case measure =>
      have o1 := leftUp_is (h := h) bG.out hv.out
      have o2 := leftUp_le (Box.new W3 v'.cells 43) hlk2'.out
      rw [hU.out, List.length_cons] at o1
      have o3 : (W3.alloc (.cells v'.cells.toArray 43)) = W3.alloc (.cells #[.int .i64 v'.id, .string v'.tag, .int .i64 v'.parent, .slice v'.p3 v'.n3 v'.c3, .int .i64 v'.wr, .slice v'.p5 v'.n5 v'.c5] 43) := rfl
      rw [o3] at o2
      omega
   · gi_wp2
     refine bodyPost_ret (results_none rfl _ _ _) rfl ?_
     refine ⟨⟨_, rfl⟩, .inr ⟨pre ++ [v], ⟨upL h h.vNodes.length v.parent, ?_⟩, hJx3⟩⟩
     rw [hpre.out, hU.out, List.map_append, List.map_cons, List.map_nil, hv.out]; simp
set_option maxHeartbeats 1000000 in
theorem above_in (F : Fence) (n : Nat) (hf : F.fn 52) (hro : F.round = none) (bn bo : Nat) (id : Int) (w : World) :
 CallsIn F n Try.prog 52 #[.agg #[.map (some bn), .map (some bo)], .int .i64 id] w fun e w' => e = .returned (.func (.func 75) #[] #[.pointer (some ⟨w.heap.size, 0, none⟩), .pointer (some ⟨w.heap.size + 1, 0, none⟩)]) ∧ w' = (w.alloc (.cells #[.map (some bn), .map (some bo)] 77)).alloc (.cells #[.int .i64 id] 2) := by
 refine callsIn_of_wp Try.func52 rfl hf ?_ hro
 simp only [Try.ntmps52, List.size_toArray, List.length_cons, List.length_nil, Nat.reduceAdd, Nat.reduceSub, Array.replicate_succ, Array.replicate_zero, List.push_toArray, List.append_toArray, List.nil_append, List.cons_append]
 gi_wp2
 go_ret
 exact ⟨rfl, rfl⟩
theorem above_stops (F : Fence) (n : Nat) (hf : F.fn 75) (hro : F.round = none) (hn : 1 ≤ n) (Bx Bi n₀ bn bo lo : Nat) (w0 w : World) (h : HeapD) (id : Int) (hz : nodeAt h 0 = none) (hup : ∀ i x, nodeAt h i = some x → upF h h.vNodes.length i = true)
 (bX : Box w Bx [.map (some bn), .map (some bo)] 77) (bI : Box w Bi [.int .i64 id] 2) (hM : MapIn w0 w lo bn h) (hx : Bx < n₀) (hb : bn < n₀) (hn₀ : n₀ ≤ w.heap.size) :
 SeqStopsK F n Try.prog 75 #[.pointer (some ⟨Bx, 0, none⟩), .pointer (some ⟨Bi, 0, none⟩)] NodeV.encs (Kp n₀) (fun ys => ys.map NodeV.id = upL h h.vNodes.length id) (fun pre => pre.map NodeV.id <+: upL h h.vNodes.length id) (upL h h.vNodes.length id).length w := fun l J Jx W hW hJ _ hY h0 =>
 above1_in F n hf hro hn l Bx Bi n₀ bn bo lo w0 h id hz hup J Jx hY W hJ (bX.below hW bX.lt) (bI.below hW bI.lt) (hM.below hW (Nat.lt_of_lt_of_le hb hn₀)) hx hb (Nat.le_trans hn₀ hW.size) h0
theorem hasB_mem {a : Int} : ∀ {xs : List Int}, a ∈ xs → hasB xs a = true := by
 intro xs
 induction xs with
 | nil => intro h; cases h
 | cons x xs ih =>
  intro h
  rcases List.mem_cons.1 h with e | e
  · subst e; simp [hasB]
  · simp [hasB, ih e]
theorem hasB_map_no {a : Int} : ∀ {ys : List NodeV}, (∀ y ∈ ys, y.id ≠ a) → hasB (ys.map NodeV.id) a = false := by
 intro ys
 induction ys with
 | nil => intro _; rfl
 | cons y ys ih =>
  intro h
  have h1 := h y (by simp)
  simp [hasB, h1, ih (fun z hz => h z (List.mem_cons_of_mem _ hz))]
set_option maxRecDepth 100000 in
set_option maxHeartbeats 4000000 in
/-- whether a node is on the way up -/
theorem contains_in (F : Fence) (n : Nat) (h1 : F.fn 49) (h2 : F.fn 52) (h3 : F.fn 75) (hro : F.round = none) (hn : 3 ≤ n) (bn bo lo : Nat) (w0 w : World) (h : HeapD) (a b : Int) (hz : nodeAt h 0 = none) (hup : ∀ i x, nodeAt h i = some x → upF h h.vNodes.length i = true) (hM : MapIn w0 w lo bn h) :
 CallsIn F n Try.prog 49 #[.agg #[.map (some bn), .map (some bo)], .int .i64 a, .int .i64 b] w fun e W' => e = .returned (.bool (hasB (upL h h.vNodes.length b) a)) ∧ Below w.heap.size w W' := by
 have hn1 : 1 ≤ n := by omega
 have hbn : bn < w.heap.size := by obtain ⟨es, c, q, _⟩ := hM; exact (Array.getElem?_eq_some_iff.1 q).1
 refine callsIn_of_wp_marks Try.func49 rfl h1 ?_ hro
 simp only [Try.ntmps49, List.size_toArray, List.length_cons, List.length_nil, Nat.reduceAdd, Nat.reduceSub, Array.replicate_succ, Array.replicate_zero, List.push_toArray, List.append_toArray, List.nil_append, List.cons_append]
 gi_wp2_with (gi_at_call 52; refine (above_in F (n - 1) h2 hro _ _ _ _).mono ?_; rintro e w' ⟨rfl, rfl⟩)
 have bA : Box (((((w.alloc (.cells #[.map (some bn), .map (some bo)] 77)).alloc (.cells #[.int .i64 a] 2)).alloc (.cells #[.bool false] 4)).alloc (.cells #[.map (some bn), .map (some bo)] 77)).alloc (.cells #[.int .i64 b] 2)) (w.heap.size + 1) [.int .i64 a] 2 := by
  have q := (((Box.new (w.alloc (.cells #[.map (some bn), .map (some bo)] 77)) [.int .i64 a] 2).alloc (.cells #[.bool false] 4)).alloc (.cells #[.map (some bn), .map (some bo)] 77)).alloc (.cells #[.int .i64 b] 2)
  simpa only [World.size_alloc] using q
 have bR : Box (((((w.alloc (.cells #[.map (some bn), .map (some bo)] 77)).alloc (.cells #[.int .i64 a] 2)).alloc (.cells #[.bool false] 4)).alloc (.cells #[.map (some bn), .map (some bo)] 77)).alloc (.cells #[.int .i64 b] 2)) (w.heap.size + 1 + 1) [.bool false] 4 := by
  have q := ((Box.new ((w.alloc (.cells #[.map (some bn), .map (some bo)] 77)).alloc (.cells #[.int .i64 a] 2)) [.bool false] 4).alloc (.cells #[.map (some bn), .map (some bo)] 77)).alloc (.cells #[.int .i64 b] 2)
  simpa only [World.size_alloc] using q
 have bX : Box (((((w.alloc (.cells #[.map (some bn), .map (some bo)] 77)).alloc (.cells #[.int .i64 a] 2)).alloc (.cells #[.bool false] 4)).alloc (.cells #[.map (some bn), .map (some bo)] 77)).alloc (.cells #[.int .i64 b] 2)) (w.heap.size + 1 + 1 + 1) [.map (some bn), .map (some bo)] 77 := by
  have q := (Box.new (((w.alloc (.cells #[.map (some bn), .map (some bo)] 77)).alloc (.cells #[.int .i64 a] 2)).alloc (.cells #[.bool false] 4)) [.map (some bn), .map (some bo)] 77).alloc (.cells #[.int .i64 b] 2)
  simpa only [World.size_alloc] using q
 have bI : Box (((((w.alloc (.cells #[.map (some bn), .map (some bo)] 77)).alloc (.cells #[.int .i64 a] 2)).alloc (.cells #[.bool false] 4)).alloc (.cells #[.map (some bn), .map (some bo)] 77)).alloc (.cells #[.int .i64 b] 2)) (w.heap.size + 1 + 1 + 1 + 1) [.int .i64 b] 2 := by
  have q := Box.new ((((w.alloc (.cells #[.map (some bn), .map (some bo)] 77)).alloc (.cells #[.int .i64 a] 2)).alloc (.cells #[.bool false] 4)).alloc (.cells #[.map (some bn), .map (some bo)] 77)) [.int .i64 b] 2
  simpa only [World.size_alloc] using q
 have hB0 : Below w.heap.size w (((((w.alloc (.cells #[.map (some bn), .map (some bo)] 77)).alloc (.cells #[.int .i64 a] 2)).alloc (.cells #[.bool false] 4)).alloc (.cells #[.map (some bn), .map (some bo)] 77)).alloc (.cells #[.int .i64 b] 2)) := by
  (repeat refine Below.alloc ?_ (by simp <;> omega) _)
  exact Below.refl _ _
 have hsz : (((((w.alloc (.cells #[.map (some bn), .map (some bo)] 77)).alloc (.cells #[.int .i64 a] 2)).alloc (.cells #[.bool false] 4)).alloc (.cells #[.map (some bn), .map (some bo)] 77)).alloc (.cells #[.int .i64 b] 2)).heap.size = w.heap.size + 1 + 1 + 1 + 1 + 1 := by simp
 have hM0 : MapIn w0 (((((w.alloc (.cells #[.map (some bn), .map (some bo)] 77)).alloc (.cells #[.int .i64 a] 2)).alloc (.cells #[.bool false] 4)).alloc (.cells #[.map (some bn), .map (some bo)] 77)).alloc (.cells #[.int .i64 b] 2)) lo bn h := hM.below hB0 hbn
 obtain ⟨W0, hW0⟩ : ∃ W0, (((((w.alloc (.cells #[.map (some bn), .map (some bo)] 77)).alloc (.cells #[.int .i64 a] 2)).alloc (.cells #[.bool false] 4)).alloc (.cells #[.map (some bn), .map (some bo)] 77)).alloc (.cells #[.int .i64 b] 2)) = W0 := ⟨_, rfl⟩
 rw [hW0] at bA bR bX bI hB0 hsz hM0 ⊢
 clear hW0
 refine wpIn_rangeFunc_ownH hro hn1 (gf := 75) (lb := #[.pointer (some ⟨w.heap.size + 1 + 1 + 1, 0, none⟩), .pointer (some ⟨w.heap.size + 1 + 1 + 1 + 1, 0, none⟩)]) rfl h3 (enters_of Try.func75 (by kernel_rfl) rfl)
  (above_stops F (n - 1) h3 hro (by omega) _ _ W0.heap.size bn bo lo w0 W0 h b hz hup bX bI hM0 (by omega) (by omega) (Nat.le_refl _)) Kp.trans (Kp.put (Nat.le_refl _)) (Below.refl _ _) (fun _ => rfl)
  (fun pre W => (∀ y ∈ pre, y.id ≠ a) ∧ Below W0.heap.size W0 W)
  (fun c pre W => ((c = .ret ∧ a ∈ pre.map NodeV.id) ∧ Box W (w.heap.size + 1 + 1) [.bool true] 4) ∧ Below w.heap.size w W)
  (OwnFrom.and (ownFrom_pure _ _) (ownFrom_below (Nat.le_refl _) (Nat.le_refl _)))
  (fun c => OwnFrom.and (OwnFrom.and (ownFrom_pure _ _) (Own.from (box_own _ _ (fun _ => [.bool true])) _)) (ownFrom_below (Nat.le_refl _) (by omega)))
  ⟨by simp, Below.refl _ _⟩
  (fun x a' W => ∃ Bv, w.heap.size + 1 + 1 < Bv ∧ Box W Bv x.cells 43 ∧ a' = { tmps := #[.agg #[.map (some bn), .map (some bo)], .int .i64 a, .int .i64 b, .pointer (some ⟨w.heap.size, 0, none⟩), .pointer (some ⟨w.heap.size + 1, 0, none⟩), undef, .pointer (some ⟨w.heap.size + 1 + 1, 0, none⟩), .pointer (some ⟨Bv, 0, none⟩), .agg #[.map (some bn), .map (some bo)], .int .i64 b, .func (.func 75) #[] #[.pointer (some ⟨w.heap.size + 1 + 1 + 1, 0, none⟩), .pointer (some ⟨w.heap.size + 1 + 1 + 1 + 1, 0, none⟩)], .agg #[.int .i64 x.id, .string x.tag, .int .i64 x.parent, .slice x.p3 x.n3 x.c3, .int .i64 x.wr, .slice x.p5 x.n5 x.c5], undef, undef, undef, undef], defers := [] })
  (fun x a' _ X Y row hs hg hr => by obtain ⟨Bx, q1, q2, q3⟩ := hs; exact ⟨Bx, q1, box_own Bx 43 (fun (_ : Unit) => x.cells) () X Y row q2 hg (fun r e => (hr r e).2), q3⟩)
  ?assign ?body ?done ?stop
 case assign =>
  rintro l pre x W K ⟨hp, hB1⟩ hK
  unfold NodeV.encs
  have hs1 := hB1.size
  gi_wp2
  exact hK _ _ ((KeepsOthers.alloc _ _).from _) ⟨(Below.refl _ W).alloc hs1 _, KeepsT.alloc _ _⟩ ⟨hp, hB1.alloc hs1 _⟩ ⟨W.heap.size, by omega, Box.new W x.cells 43, rfl⟩
 case body =>
  rintro l pre x a' W hl ⟨r, hr⟩ ⟨hp, hB1⟩ ⟨Bv, hBv, bV, rfl⟩ hlt
  have hs1 := hB1.size
  have bA1 := bA.below hB1 (by omega)
  have bR1 := bR.below hB1 (by omega)
  have cA := bA1.cell 0 rfl
  have cR := bR1.cell 0 rfl
  have fR := bR1.unfrozen 0
  have cV := bV.cell 0 rfl
  gi_wp2
  · rename_i hx
    have hx' : x.id = a := eq_of_beq hx
    refine ⟨(KeepsOthers.setCell _ _ _).from _, ⟨⟨rfl, ?_⟩, bR1.set (i := 0) (.bool true)⟩, ?_⟩
    · simp [hx']
    · exact (hB0.trans (hB1.mono hB0.size)).setCell (by simp; omega) _
  · rename_i hx
    refine ⟨KeepsFrom.refl _ _, ⟨Below.refl _ _, KeepsT.refl _ _⟩, ?_, hB1⟩
    intro y hy
    rcases List.mem_append.1 hy with q | q
    · exact hp y q
    · simp at q; subst q; intro e; subst e; simp at hx
 case done =>
  rintro D ys W hD hS ⟨hp, hB1⟩ hK
  have hs1 := hB1.size
  have bR1 := bR.below hB1 (by omega)
  have cR := bR1.cell 0 rfl
  have fR := bR1.unfrozen 0
  gi_wp2
  have hK' := (KeepsOthers.setCell W ⟨w.heap.size + 1 + 1, 0, none⟩ (.bool false)).same D _ hK rfl
  refine ⟨by simp, .inl ⟨_, _, rfl, run_takeDeferred hK', ?_⟩⟩
  have hc5 := cell_kept ((bR1.set (i := 0) (.bool false)).cell 0 (v := .bool false) rfl) (grownBy_putObj' _ D (.deferred none)) (fun r e => by cases e; exact ⟨_, hK', rfl⟩)
  have hBw : Below w.heap.size w W := hB0.trans (hB1.mono hB0.size)
  refine ⟨.bool false, ?_, by rw [← hS, hasB_map_no hp], (hBw.setCell (p := ⟨w.heap.size + 1 + 1, 0, none⟩) (by simp; omega) _).trans (belowK_b (w := w) (Nat.le_refl _) _ D _ _ (by omega) hK' rfl rfl)⟩
  simp [results, Try.f49, go_sem, hc5]
 case stop =>
  rintro D c pre W hD hpre ⟨⟨⟨rfl, hin⟩, bR1⟩, hBw⟩ hK
  gi_wp2
  refine ⟨by simp, .inl ⟨_, _, rfl, run_takeDeferred hK, ?_⟩⟩
  have hc5 := cell_kept (bR1.cell 0 (v := .bool true) rfl) (grownBy_putObj' _ D (.deferred none)) (fun r e => by cases e; exact ⟨_, hK, rfl⟩)
  refine ⟨.bool true, ?_, by rw [hasB_mem (hpre.subset hin)], hBw.trans (belowK_b (w := w) (Nat.le_refl _) W D _ _ (by omega) hK rfl rfl)⟩
  simp [results, Try.f49, go_sem, hc5]
end Go.Proofs.Ytdnembnlomnceaa
