/- What is drawn as a heap: some heap in new memory. -/
import Derived.Test.YtdnembnlomnceaaGreatAbb
import Derived.Test.YtdnembnlomnceaaGreatTakeMore
import Derived.Test.YtdnembnlomnceaaGreatDrawOp
import Derived.Test.YtdnembnlomnceaaGreatRanW
import Derived.Test.YtdnembnlomnceaaGreatRanWords
namespace Go.Proofs.YtdnembnlomnceaaGreat
open Go.RowKit Go.Deep
def newN : NodeD := { vId := 1, vTag := ⟨#[100, 111, 99]⟩, vParent := 0, vKids := [], vWrapper := 0, vListeners := [] }
def newH : HeapD := { vNext := 2, vDoc := 1, vNodes := [newN], vObjs := [], vGlobals := [] }
theorem ownNil {α : Type} {c : Nat} {R : World → List Value → α → List Nat → Prop} {w : World} : SeqOwn c R w (.slice none 0 0) [] [] := ⟨none, 0, rfl, ⟨Nat.zero_le _, Nat.zero_le _⟩, Or.inl ⟨rfl, rfl⟩⟩
theorem newN_own {w : World} : NodeP w [.int .i64 1, .string ⟨#[100, 111, 99]⟩, .int .i64 0, .slice none 0 0, .int .i64 0, .slice none 0 0] newN [] := ⟨.slice none 0 0, .slice none 0 0, [], [], [], rfl, ownNil, GrowOwn.nil, by unfold InI; decide, by decide, by unfold InI; decide, by unfold InI; decide, rfl⟩
theorem newH_own {w : World} {b : Nat} (h : Box w b [.int .i64 1, .string ⟨#[100, 111, 99]⟩, .int .i64 0, .slice none 0 0, .int .i64 0, .slice none 0 0] 73) : HeapP w [.int .i64 2, .int .i64 1, .slice (some ⟨b, 0, none⟩) 1 1, .slice none 0 0, .slice none 0 0] newH [b] := by
 refine ⟨_, _, _, [[]], [], [[.int .i64 1, .string ⟨#[100, 111, 99]⟩, .int .i64 0, .slice none 0 0, .int .i64 0, .slice none 0 0]], [], [], rfl, ⟨rfl, rfl, by simp, ⟨rfl, Or.inr ⟨b, 1, List.toArray [.int .i64 1, .string ⟨#[100, 111, 99]⟩, .int .i64 0, .slice none 0 0, .int .i64 0, .slice none 0 0], rfl, Nat.zero_le _, h, Nat.le_refl _, by decide, rfl, rfl⟩⟩, fun i h1 h2 h3 => ?_, by simp, by simp⟩, GrowOwn.nil, ownNil, by unfold InI; decide, by unfold InI; decide, ?_, by simp⟩
 · obtain rfl : i = 0 := by simp [newH] at h1; omega
   exact newN_own
 · simp [gfs, Value.ownBlock]
set_option maxRecDepth 100000 in
set_option maxHeartbeats 800000 in
theorem specNew_any {w : World} : Calls Tryz.prog 42 #[] w fun e w' => (∃ b, e = .returned (.agg #[.int .i64 2, .int .i64 1, .slice (some ⟨b, 0, none⟩) 1 1, .slice none 0 0, .slice none 0 0]) ∧ HeapP w' [.int .i64 2, .int .i64 1, .slice (some ⟨b, 0, none⟩) 1 1, .slice none 0 0, .slice none 0 0] newH [b] ∧ w.heap.size ≤ b) ∧ Below w.heap.size w w' := by
 have hb0 : Below w.heap.size w ((w.alloc (.cells (List.toArray [.int .i64 2, .int .i64 1, .slice (some ⟨(w.heap.size + 1), 0, none⟩) 1 1, .slice none 0 0, .slice none 0 0]) 28)).alloc (.cells (List.toArray [.int .i64 1, .string ⟨#[100, 111, 99]⟩, .int .i64 0, .slice none 0 0, .int .i64 0, .slice none 0 0]) 73)) := ((Below.refl _ _).alloc (Nat.le_refl _) _).alloc (by simp) _
 have bx : Hid (Box ((w.alloc (.cells (List.toArray [.int .i64 2, .int .i64 1, .slice (some ⟨(w.heap.size + 1), 0, none⟩) 1 1, .slice none 0 0, .slice none 0 0]) 28)).alloc (.cells (List.toArray [.int .i64 1, .string ⟨#[100, 111, 99]⟩, .int .i64 0, .slice none 0 0, .int .i64 0, .slice none 0 0]) 73)) (w.heap.size + 1) [.int .i64 1, .string ⟨#[100, 111, 99]⟩, .int .i64 0, .slice none 0 0, .int .i64 0, .slice none 0 0] 73) := by have hb := Box.new (w.alloc (.cells (List.toArray [.int .i64 2, .int .i64 1, .slice (some ⟨(w.heap.size + 1), 0, none⟩) 1 1, .slice none 0 0, .slice none 0 0]) 28)) [.int .i64 1, .string ⟨#[100, 111, 99]⟩, .int .i64 0, .slice none 0 0, .int .i64 0, .slice none 0 0] 73; rw [World.size_alloc] at hb; exact hb
 go_enter Tryz.func42, Tryz.ntmps42
 go_wp2_with fail
 refine bodyPost_ret (v := .agg #[.int .i64 2, .int .i64 1, .slice (some ⟨w.heap.size + 1, 0, none⟩) 1 1, .slice none 0 0, .slice none 0 0]) (by simp [results, Tryz.results42, go_sem]) rfl ?_
 exact ⟨⟨_, rfl, newH_own bx.out, by omega⟩, hb0⟩
theorem newH_right : specB newH = true := by decide
/-- a heap that is being drawn, in its box -/
structure HD (w : World) (g : Nat) (a : Option Addr) (n cap E : Nat) (y : HeapD) (cs : List Value) (W : World) : Prop where
 hG : w.grownBy W (some g)
 hR : RdAt W g a n cap
 bR : Box W w.heap.size cZp 28
 bE : Box W E cs 28
 hE : w.heap.size < E
 hp : ∃ fs, HeapP W cs y fs ∧ ∀ b ∈ fs, w.heap.size < b ∧ b ≠ E
theorem HD.hx {w W : World} {g : Nat} {a : Option Addr} {n cap E : Nat} {y : HeapD} {cs : List Value} (h : HD w g a n cap E y cs W) : HeapAt W 0 cs y := by
 obtain ⟨fs, hp, _⟩ := h.hp; exact hp.at0
theorem HD.below {w W W' : World} {g : Nat} {a : Option Addr} {n cap E : Nat} {y : HeapD} {cs : List Value} (h : HD w g a n cap E y cs W) (q : Below W.heap.size W W') : HD w g a n cap E y cs W' := by
 obtain ⟨fs, hp, hn⟩ := h.hp
 exact ⟨grown_on h.hG (grown_of_below q _), h.hR.below q, h.bR.below q h.bR.lt, h.bE.below q h.bE.lt, h.hE, fs, hp.below q, hn⟩
theorem HD.grow {w W W' : World} {g : Nat} {a : Option Addr} {n cap E : Nat} {y : HeapD} {cs : List Value} (h : HD w g a n cap E y cs W) (hlt : g < w.heap.size) (hr : RdAt W' g a n cap) (q : W.grownBy W' (some g)) : HD w g a n cap E y cs W' := by
 obtain ⟨fs, hp, hn⟩ := h.hp
 have hE := h.hE
 exact ⟨grown_on h.hG q, hr, box_other h.bR (by omega) q, box_other h.bE (by omega) q, hE, fs, hp.stays (fun b hb => q.block b (hp.lt b hb) (fun e => by injection e with e; have := hn b hb; omega)), hn⟩
/-- another heap in the box -/
theorem HD.ran {w W W2 : World} {g : Nat} {a : Option Addr} {n cap E : Nat} {y z : HeapD} {cs : List Value} {k0 k1 k2 k3 k4 : Value} {fs2 : List Nat} (h : HD w g a n cap E y cs W) (hlt : g < w.heap.size) (q : Below W.heap.size W W2) (hp : HeapP W2 [k0, k1, k2, k3, k4] z fs2) (hn : ∀ b ∈ fs2, W.heap.size ≤ b) : HD w g a n cap E z [k0, k1, k2, k3, k4] (putCells W2 E 0 [k0, k1, k2, k3, k4]) := by
 have h2 := h.below q
 have hE := h.hE
 have hEl := h.bE.lt
 have hz := h.hG.size
 obtain ⟨a0, a1, a2, a3, a4, rfl⟩ : ∃ a0 a1 a2 a3 a4, cs = [a0, a1, a2, a3, a4] := by
  obtain ⟨fs, hp0, _⟩ := h.hp
  obtain ⟨_, _, _, _, _, _, e⟩ := hp0.form
  exact ⟨_, _, _, _, _, e⟩
 refine ⟨?_, h2.hR.keep (fun b hb => putCells_other _ _ _ _ _ (by omega)), (putCells_other _ _ _ _ _ (by omega)).trans h2.bR, ((((h2.bE.set (i := 0) _).set (i := 1) _).set (i := 2) _).set (i := 3) _).set (i := 4) _, hE, fs2, hp.stays (fun b hb => putCells_other _ _ _ _ _ (by have := hn b hb; omega)), fun b hb => by have := hn b hb; omega⟩
 exact grown_putsL _ h2.hG (by omega)
theorem HD.inner {w W : World} {g : Nat} {a : Option Addr} {n cap E G i : Nat} {y z : HeapD} {cs : List Value} {u : Value} (h : HD w g a n cap E y cs W) (hlt : g < w.heap.size) (hG : w.heap.size < G ∧ G ≠ E) (hp : ∃ fs, HeapP (W.setCell ⟨G, i, none⟩ u) cs z fs ∧ ∀ b ∈ fs, w.heap.size < b ∧ b ≠ E) : HD w g a n cap E z cs (W.setCell ⟨G, i, none⟩ u) := by
 have hE := h.hE
 exact ⟨grown_putsL (o := i) [u] h.hG (by omega), h.hR.keep (fun b hb => set_other (by omega) _), (set_other (by omega) _).trans h.bR, (set_other (fun e => hG.2 e.symm) _).trans h.bE, hE, hp⟩
theorem HD.nodePar {w W : World} {g : Nat} {a : Option Addr} {n cap E : Nat} {y : HeapD} {k0 k1 vO vG : Value} {gN nl kN : Nat} (h : HD w g a n cap E y [k0, k1, .slice (some ⟨gN, 0, none⟩) nl kN, vO, vG] W) (hlt : g < w.heap.size) {k : Nat} (hk : k < y.vNodes.length) {v : Int} (hv : InI v) :
 W.cell? ⟨gN, k * 6 + 2, none⟩ = some (.int .i64 y.vNodes[k].vParent) ∧ (∀ j, W.frozen? ⟨gN, j, none⟩ = false) ∧ HD w g a n cap E { y with vNodes := y.vNodes.set k { y.vNodes[k] with vParent := v } } [k0, k1, .slice (some ⟨gN, 0, none⟩) nl kN, vO, vG] (W.setCell ⟨gN, k * 6 + 2, none⟩ (.int .i64 v)) ∧ True := by
 obtain ⟨fs, hp, hn⟩ := h.hp
 obtain ⟨_, eg, ufo⟩ := hp.posN (show 0 < y.vNodes.length by omega)
 injection eg with eg
 injection eg with eg
 subst eg
 obtain ⟨CC, fi, h1, h2, h3, h4, h5, h6⟩ := hp.node hk
 have lc : W.cell? ⟨gN, k * 6 + 2, none⟩ = some (.int .i64 y.vNodes[k].vParent) := by
  obtain ⟨a3, c3, a5, c5, e⟩ := h1.len
  exact h2 2 _ (by rw [e]; rfl)
 obtain ⟨fs', q1, q2⟩ := h6 W 2 (.int .i64 v) _ fi (by omega) (Nat.le_refl _) (fun _ _ _ => rfl) (h1.par hv) h5 (fun b hb => Or.inl hb)
 refine ⟨lc, ufo, h.inner hlt (hn _ h4) ⟨fs', q1, fun b hb => ?_⟩, trivial⟩
 rcases q2 b hb with z | z
 · exact hn b z
 · have h7 := h.bE.lt; have h8 := h.hG.size; have h9 := h.hE; omega
theorem HD.objNode {w W : World} {g : Nat} {a : Option Addr} {n cap E : Nat} {y : HeapD} {k0 k1 vN vG : Value} {gO nl kO : Nat} (h : HD w g a n cap E y [k0, k1, vN, .slice (some ⟨gO, 0, none⟩) nl kO, vG] W) (hlt : g < w.heap.size) (hO : 0 < y.vObjs.length) {v : Int} (hv : InI v) :
 W.cell? ⟨gO, 1, none⟩ = some (.int .i64 y.vObjs[0].vNode) ∧ (∀ j, W.frozen? ⟨gO, j, none⟩ = false) ∧ HD w g a n cap E { y with vObjs := y.vObjs.set 0 { y.vObjs[0] with vNode := v } } [k0, k1, vN, .slice (some ⟨gO, 0, none⟩) nl kO, vG] (W.setCell ⟨gO, 1, none⟩ (.int .i64 v)) := by
 obtain ⟨fs, hp, hn⟩ := h.hp
 obtain ⟨_, eg, ufo⟩ := hp.posO hO
 injection eg with eg
 injection eg with eg
 subst eg
 obtain ⟨CC, fi, h1, h2, h3, h4, h5, h6⟩ := hp.obj hO
 obtain ⟨k2, f2, rfl, hs2, r0, r1, rfl⟩ := h1
 have lc : W.cell? ⟨gO, 1, none⟩ = some (.int .i64 y.vObjs[0].vNode) := by have q := h2 1 _ rfl; rw [Nat.zero_mul, Nat.zero_add] at q; exact q
 obtain ⟨fs', q1, q2⟩ := h6 W 1 (.int .i64 v) { y.vObjs[0] with vNode := v } fi (by omega) (Nat.le_refl _) (fun _ _ _ => rfl) ⟨k2, fi, rfl, hs2, r0, hv, rfl⟩ h5 (fun b hb => Or.inl hb)
 rw [Nat.zero_mul, Nat.zero_add] at q1
 refine ⟨lc, ufo, h.inner hlt (hn _ h4) ⟨fs', q1, fun b hb => ?_⟩⟩
 rcases q2 b hb with z | z
 · exact hn b z
 · have h7 := h.bE.lt; have h8 := h.hG.size; have h9 := h.hE; omega
theorem FW.setN {y : HeapD} (h : FW y) (hO : 0 < y.vObjs.length) (v : Int) : FW { y with vObjs := y.vObjs.set 0 { y.vObjs[0] with vNode := v } } := fun ob hb f hf => by
 rcases List.mem_or_eq_of_mem_set hb with q | q
 · exact h ob q f hf
 · rw [q] at hf; exact h _ (List.getElem_mem hO) f hf
theorem HD.turn0 {w W : World} {g : Nat} {a : Option Addr} {n cap E : Nat} {y : HeapD} {k0 k1 k2 k3 k4 : Value} (h : HD w g a n cap E y [k0, k1, k2, k3, k4] W) (hlt : g < w.heap.size) {v : Int} (hv : InI v) : HD w g a n cap E { y with vNext := v } [.int .i64 v, k1, k2, k3, k4] (W.setCell ⟨E, 0, none⟩ (.int .i64 v)) := by
 obtain ⟨fs, hp, hn⟩ := h.hp
 have hE := h.hE
 exact ⟨grown_putsL (o := 0) [.int .i64 v] h.hG (by omega), h.hR.keep (fun b hb => set_other (by omega) _), (set_other (by omega) _).trans h.bR, h.bE.set (i := 0) _, hE, fs, (hp.next hv).stays (fun b hb => set_other (hn b hb).2 _), hn⟩
theorem HD.turn1 {w W : World} {g : Nat} {a : Option Addr} {n cap E : Nat} {y : HeapD} {k0 k1 k2 k3 k4 : Value} (h : HD w g a n cap E y [k0, k1, k2, k3, k4] W) (hlt : g < w.heap.size) {v : Int} (hv : InI v) : HD w g a n cap E { y with vDoc := v } [k0, .int .i64 v, k2, k3, k4] (W.setCell ⟨E, 1, none⟩ (.int .i64 v)) := by
 obtain ⟨fs, hp, hn⟩ := h.hp
 have hE := h.hE
 have hp2 : HeapP W [k0, .int .i64 v, k2, k3, k4] { y with vDoc := v } fs := by
  obtain ⟨vN, vO, vG, bN, bO, cN, cO, fG, e, hN, hO, hG, i1, i2, rfl, nd⟩ := hp
  simp only [List.cons.injEq, and_true] at e
  obtain ⟨rfl, rfl, rfl, rfl, rfl⟩ := e
  exact ⟨_, _, _, bN, bO, cN, cO, fG, rfl, hN, hO, hG, i1, hv, rfl, nd⟩
 exact ⟨grown_putsL (o := 1) [.int .i64 v] h.hG (by omega), h.hR.keep (fun b hb => set_other (by omega) _), (set_other (by omega) _).trans h.bR, h.bE.set (i := 1) _, hE, fs, hp2.stays (fun b hb => set_other (hn b hb).2 _), hn⟩
theorem HD.form {w W : World} {g : Nat} {a : Option Addr} {n cap E : Nat} {y : HeapD} {cs : List Value} (h : HD w g a n cap E y cs W) : ∃ (aN5 : Option Addr) (kN5 : Nat) (aO5 : Option Addr) (kO5 : Nat) (aG5 : Option Addr) (kG5 : Nat), cs = (cHp y aN5 kN5 aO5 kO5 aG5 kG5) := by
 obtain ⟨fs, hp, _⟩ := h.hp
 obtain ⟨a1, c1, a2, c2, a3, c3, e⟩ := hp.form
 exact ⟨a1, c1, a2, c2, a3, c3, e⟩
/-- what is told -/
def HDr (w : World) (g : Nat) (a : Option Addr) (n cap : Nat) (w' : World) (e : Ending) : Prop := (∃ (y : HeapD) (cs : List Value) (fs : List Nat), e = .returned (.agg cs.toArray) ∧ HSz y ∧ FW y ∧ HeapP w' cs y fs ∧ ∀ b ∈ fs, w.heap.size ≤ b) ∧ RdAt w' g a n cap ∧ w.grownBy w' (some g)
set_option maxRecDepth 100000 in
set_option maxHeartbeats 8000000 in
theorem heap_any {w : World} {g : Nat} {a : Option Addr} {n cap : Nat} (h : RdAt w g a n cap) (most : Int) (hm0 : 0 ≤ most) (hm1 : most ≤ 1000) :
 Calls Tryz.prog 24 #[.pointer (some ⟨g, 0, none⟩), .int .i64 most] w fun e w' => HDr w g a n cap w' e := by
 have h' : Hid (RdAt w g a n cap) := h
 have hlt : Hid (g < w.heap.size) := h.lt
 clear h
 have hw1 : IntKind.i64.wrap (most + 1) = most + 1 := by rw [IntKind.wrap_i64]; omega
 have bR0 : Hid (Box (w.alloc (.cells cZp.toArray 28)) w.heap.size cZp 28) := Box.new w _ _
 have hb0 : Hid (Below w.heap.size w (w.alloc (.cells cZp.toArray 28))) := (Below.refl _ _).alloc (Nat.le_refl _) _
 go_enter Tryz.func24, Tryz.ntmps24
 go_upto_region 1 with fail
 generalize (w.alloc (.cells cZp.toArray 28)) = w0 at bR0 hb0 ⊢
 go_wp2_with fail
 refine specNew_any.mono ?_
 rintro e w1 ⟨⟨b, rfl, hpn, hbn⟩, hbw⟩
 have hD1 : Hid (HD w g a n cap w1.heap.size newH [.int .i64 2, .int .i64 1, .slice (some ⟨b, 0, none⟩) 1 1, .slice none 0 0, .slice none 0 0] (w1.alloc (.cells #[.int .i64 2, .int .i64 1, .slice (some ⟨b, 0, none⟩) 1 1, .slice none 0 0, .slice none 0 0] 28))) := by
  have q1 := bR0.out.lt
  have q2 := hbw.size
  have AL : Below w1.heap.size w1 (w1.alloc (.cells #[.int .i64 2, .int .i64 1, .slice (some ⟨b, 0, none⟩) 1 1, .slice none 0 0, .slice none 0 0] 28)) := (Below.refl _ _).alloc (Nat.le_refl _) _
  have b1 : Box w1 w.heap.size cZp 28 := bR0.out.below hbw bR0.out.lt
  have r1 : RdAt w1 g a n cap := (h'.out.below hb0.out).below hbw
  refine ⟨grown_on (grown_on (grown_of_below hb0.out _) (grown_of_below hbw _)) (grown_of_below AL _), r1.below AL, b1.below AL b1.lt, Box.new w1 _ _, by omega, [b], hpn.below AL, fun x hx => ?_⟩
  have := hpn.lt b (by simp)
  simp at hx
  subst hx
  omega
 clear hpn hbn hbw hb0 bR0 h'
 go_upto_region 2 with fail
 obtain ⟨E, hE⟩ : ∃ E, w1.heap.size = E := ⟨_, rfl⟩
 rw [hE] at hD1 ⊢
 clear hE
 generalize (w1.alloc (.cells #[.int .i64 2, .int .i64 1, .slice (some ⟨b, 0, none⟩) 1 1, .slice none 0 0, .slice none 0 0] 28)) = w2 at hD1 ⊢
 go_wp2_with fail
 refine (below_any (by exact hD1.out.hR) (most + 1) (by omega) (by omega)).mono ?_
 rintro e w4 ⟨v3, rfl, v30, v31, hr3, hg3⟩
 have hD4 : Hid _ := hD1.out.grow hlt.out hr3 hg3
 clear hr3 hg3 hD1
 go_upto_block 0 with fail
 go_cut [] from 6 (fun wx => ∃ (y : HeapD) (aN5 : Option Addr) (kN5 : Nat) (aO5 : Option Addr) (kO5 : Nat) (aG5 : Option Addr) (kG5 : Nat), Hid (specB y = true) ∧ Hid (FW y) ∧ Hid (HD w g a n cap E y (cHp y aN5 kN5 aO5 kO5 aG5 kG5) wx))
 case first =>
  have hnr : Hid (specB newH = true) := newH_right
  have hnf : Hid (FW newH) := fun ob hb => by cases hb
  go_wp2_with fail
  go_loopw [6] (fun iv wr => ∃ (i : Int) (y : HeapD) (aN5 : Option Addr) (kN5 : Nat) (aO5 : Option Addr) (kO5 : Nat) (aG5 : Option Addr) (kG5 : Nat), 0 ≤ i ∧ i ≤ v3 ∧ iv = .int .i64 i ∧ Hid (specB y = true) ∧ Hid (FW y) ∧ Hid (HD w g a n cap E y (cHp y aN5 kN5 aO5 kO5 aG5 kG5) wr)) (fun iv _ => (intOf iv).toNat)
  case atStart => exact ⟨v3, newH, _, _, _, _, _, _, v30, by omega, rfl, hnr, hnf, hD4⟩
  case round =>
   obtain ⟨i, y, aN5, kN5, aO5, kO5, aG5, kG5, i0, i1, rfl, hsy0, hfy0, hD0⟩ := hrel
   have hsy : Hid (specB y = true) := hsy0
   have hfy : Hid (FW y) := hfy0
   have hDr : Hid (HD w g a n cap E y (cHp y aN5 kN5 aO5 kO5 aG5 kG5) wr) := hD0
   clear hsy0 hfy0 hD0 hD4 hnr hnf
   by_cases hi : 0 < i
   · go_upto_region 5 with fail
     have hD2 : Hid (HD w g a n cap E y (cHp y aN5 kN5 aO5 kO5 aG5 kG5) wr.drew) := hDr.out.below (Below.drew (Below.refl _ _))
     clear hDr
     refine wp_region_held_drew (S := fun w' => True) (by kernel_rfl) trivial (fun hHeld => ?_)
     refine tk 1 ?_
     refine rd2 0 2 (fun K hK => ?_) (fun K hK => ?_)
     · have d0 := hD2.out.bE.cell 0 rfl
       have d1 := hD2.out.bE.cell 1 rfl
       have d2 := hD2.out.bE.cell 2 rfl
       have d3 := hD2.out.bE.cell 3 rfl
       have d4 := hD2.out.bE.cell 4 rfl
       go_simp
       clear d0 d1 d2 d3 d4
       refine hK.out _ _ trivial (fun hHeld => ?_)
       clear hK K
       refine rd1 2 (fun K hK => ?_)
       go_simp
       refine (op_any (by exact hD2.out.hR)).mono ?_
       rintro e u ⟨o, rfl, hof, hos, how, hru, hgu⟩
       have hD3 : Hid _ := hD2.out.grow hlt.out hru ⟨hgu.os, hgu.tape, hgu.output, hgu.size, hgu.block⟩
       have hofh : Hid o.fits := hof
       have hosh : Hid (InI o.vStop) := hos
       have howh : Hid (o.vWord.size ≤ 3) := how
       clear hof hos how hru hgu
       refine hK.out _ _ trivial (fun hHeld => ?_)
       clear hK K
       refine rd1 3 (fun K hK => ?_)
       go_simp
       refine (ran_any hD3.out.hx hofh.out hosh.out).mono ?_
       rintro e u2 hr
       obtain ⟨⟨z, c2⟩, hz⟩ : ∃ z, topD y o = z := ⟨_, rfl⟩
       have hsz : Hid (specB z = true) := by
        show _ = _
        have q := ranD_right (o := o) hsy.out
        have e : topD y o = ranD y o := if_pos hsy.out
        rw [← e, hz] at q
        exact q
       have hfz : Hid (FW z) := by
        show FW _
        have q := hfy.out.ran (o := o) howh.out
        have e : topD y o = ranD y o := if_pos hsy.out
        rw [← e, hz] at q
        exact q
       rw [hz] at hr
       obtain ⟨⟨cs2, fs2, rfl, hp2, hn2⟩, hb2⟩ := hr
       obtain ⟨aN6, kN6, aO6, kO6, aG6, kG6, rfl⟩ := hp2.form
       have hD4 : Hid _ := hD3.out.below hb2
       have hD5 : Hid _ := hD3.out.ran hlt.out hb2 hp2 hn2
       clear hz hb2 hp2 hn2 hofh hosh howh
       refine hK.out _ _ trivial (fun hHeld => ?_)
       clear hK K
       refine tk 4 ?_
       refine tk 5 ?_
       refine tk 6 ?_
       refine rd1 7 (fun K hK => ?_)
       have u0_ := hD4.out.bE.cell 0 rfl
       have u1_ := hD4.out.bE.cell 1 rfl
       have u2_ := hD4.out.bE.cell 2 rfl
       have u3_ := hD4.out.bE.cell 3 rfl
       have u4_ := hD4.out.bE.cell 4 rfl
       have uf_ := hD4.out.bE.unfrozen
       go_simp
       refine hK.out _ _ trivial (fun hHeld => ?_)
       clear hK K
       refine wpAnyH_done (by kernel_rfl) ?_ _
       clear hHeld hD4 hD3 u0_ u1_ u2_ u3_ u4_ uf_
       simp only [putCells] at hD5
       generalize (((((World.setCell u2 ⟨E, 0, none⟩ (.int .i64 z.vNext)).setCell ⟨E, 1, none⟩ (.int .i64 z.vDoc)).setCell ⟨E, 2, none⟩ (.slice aN6 z.vNodes.length kN6)).setCell ⟨E, 3, none⟩ (.slice aO6 z.vObjs.length kO6)).setCell ⟨E, 4, none⟩ (.slice aG6 z.vGlobals.length kG6)) = u5 at hD5 ⊢
       go_wp2_with fail
       go_roundw
       case rel => exact ⟨i - 1, z, _, _, _, _, _, _, by omega, by omega, by go_num, hsz, hfz, hD5⟩
       case measure => simp [intOf]; omega
     · go_simp
       refine (op_any (by exact hD2.out.hR)).mono ?_
       rintro e u ⟨o, rfl, hof, hos, how, hru, hgu⟩
       have hD3 : Hid _ := hD2.out.grow hlt.out hru ⟨hgu.os, hgu.tape, hgu.output, hgu.size, hgu.block⟩
       have hofh : Hid o.fits := hof
       have hosh : Hid (InI o.vStop) := hos
       have howh : Hid (o.vWord.size ≤ 3) := how
       clear hof hos how hru hgu
       refine hK.out _ _ trivial (fun hHeld => ?_)
       clear hK K
       refine rd1 0 (fun K hK => ?_)
       obtain ⟨d0, d1, d2, d3, d4⟩ := fv5 hD3.out.bE
       go_simp
       clear d0 d1 d2 d3 d4
       refine hK.out _ _ trivial (fun hHeld => ?_)
       clear hK K
       refine rd1 3 (fun K hK => ?_)
       go_simp
       refine (ran_any hD3.out.hx hofh.out hosh.out).mono ?_
       rintro e u2 hr
       obtain ⟨⟨z, c2⟩, hz⟩ : ∃ z, topD y o = z := ⟨_, rfl⟩
       have hsz : Hid (specB z = true) := by
        show _ = _
        have q := ranD_right (o := o) hsy.out
        have e : topD y o = ranD y o := if_pos hsy.out
        rw [← e, hz] at q
        exact q
       have hfz : Hid (FW z) := by
        show FW _
        have q := hfy.out.ran (o := o) howh.out
        have e : topD y o = ranD y o := if_pos hsy.out
        rw [← e, hz] at q
        exact q
       rw [hz] at hr
       obtain ⟨⟨cs2, fs2, rfl, hp2, hn2⟩, hb2⟩ := hr
       obtain ⟨aN6, kN6, aO6, kO6, aG6, kG6, rfl⟩ := hp2.form
       have hD4 : Hid _ := hD3.out.below hb2
       have hD5 : Hid _ := hD3.out.ran hlt.out hb2 hp2 hn2
       clear hz hb2 hp2 hn2 hofh hosh howh
       refine hK.out _ _ trivial (fun hHeld => ?_)
       clear hK K
       refine tk 4 ?_
       refine tk 5 ?_
       refine tk 6 ?_
       refine rd1 7 (fun K hK => ?_)
       have u0_ := hD4.out.bE.cell 0 rfl
       have u1_ := hD4.out.bE.cell 1 rfl
       have u2_ := hD4.out.bE.cell 2 rfl
       have u3_ := hD4.out.bE.cell 3 rfl
       have u4_ := hD4.out.bE.cell 4 rfl
       have uf_ := hD4.out.bE.unfrozen
       go_simp
       refine hK.out _ _ trivial (fun hHeld => ?_)
       clear hK K
       refine wpAnyH_done (by kernel_rfl) ?_ _
       clear hHeld hD4 hD3 u0_ u1_ u2_ u3_ u4_ uf_
       simp only [putCells] at hD5
       generalize (((((World.setCell u2 ⟨E, 0, none⟩ (.int .i64 z.vNext)).setCell ⟨E, 1, none⟩ (.int .i64 z.vDoc)).setCell ⟨E, 2, none⟩ (.slice aN6 z.vNodes.length kN6)).setCell ⟨E, 3, none⟩ (.slice aO6 z.vObjs.length kO6)).setCell ⟨E, 4, none⟩ (.slice aG6 z.vGlobals.length kG6)) = u5 at hD5 ⊢
       go_wp2_with fail
       go_roundw
       case rel => exact ⟨i - 1, z, _, _, _, _, _, _, by omega, by omega, by go_num, hsz, hfz, hD5⟩
       case measure => simp [intOf]; omega
   · go_wp2_with fail
     go_meet
     exact ⟨y, _, _, _, _, _, _, hsy, hfy, hDr⟩
 case rest =>
  obtain ⟨y, aN5, kN5, aO5, kO5, aG5, kG5, hsy0, hfy0, hD0⟩ := hcut
  have hR : Hid (RightH y) := right_of hsy0.out
  have hSz : Hid (HSz y) := hR.out.sz
  have hfy : Hid (FW y) := hfy0
  have hDw : Hid (HD w g a n cap E y (cHp y aN5 kN5 aO5 kO5 aG5 kG5) wc) := hD0
  clear hsy0 hfy0 hD0 hD4
  go_wp2_with fail
  refine (below_any (by exact hDw.out.hR) 40 (by omega) (by omega)).mono ?_
  rintro e w9 ⟨v9, rfl, v90, v91, hr9, hg9⟩
  have hD9 : Hid _ := hDw.out.grow hlt.out hr9 hg9
  clear hr9 hg9 hDw
  go_upto_block 2 with fail
  go_cut [] from 25 (fun wx => ∃ (y : HeapD) (cs : List Value), HSz y ∧ FW y ∧ HD w g a n cap E y cs wx)
  case first =>
   have hcs : v9 = 36 ∨ v9 = 37 ∨ v9 = 38 ∨ v9 = 39 ∨ (¬ v9 = 36 ∧ ¬ v9 = 37 ∧ ¬ v9 = 38 ∧ ¬ v9 = 39) := by omega
   rcases hcs with rfl | rfl | rfl | rfl | ⟨n1, n2, n3, n4⟩
   · go_wp2_with fail
     refine (off_any (by exact hD9.out.hR) 1 9 (by omega) (by omega) (by omega) (by omega)).mono ?_
     rintro e u4 ⟨v5, rfl, hv5, hru, hgu⟩
     have hD3 : Hid _ := hD9.out.grow hlt.out hru hgu
     have u0 := hD3.out.bE.cell 0 rfl
     have uf := hD3.out.bE.unfrozen
     have hD5 := hD3.out.turn0 hlt.out hv5
     clear hru hgu
     go_wp2_with fail
     go_meet
     exact ⟨{ y with vNext := v5 }, _, hSz.out, hfy.out, hD5⟩
   · have hN : 0 < y.vNodes.length := by
      have q := hR.out.doc
      rcases idxN_is y y.vDoc with ⟨z, _⟩ | ⟨i, hi, _⟩
      · omega
      · omega
     have hN16 : y.vNodes.length ≤ 16 := hR.out.nN
     obtain ⟨gN, hgN⟩ : ∃ gN, aN5 = some ⟨gN, 0, none⟩ := by
      obtain ⟨fs, hp, _⟩ := hD9.out.hp
      obtain ⟨gN, e, _⟩ := hp.posN hN
      exact ⟨gN, e⟩
     subst hgN
     go_upto_region 10 with fail
     have hD2 : Hid (HD w g a n cap E y (cHp y (some ⟨gN, 0, none⟩) kN5 aO5 kO5 aG5 kG5) w9.drew) := hD9.out.below (Below.drew (Below.refl _ _))
     clear hD9
     refine wp_region_held_drew (S := fun w' => w'.cell? ⟨E, 0, none⟩ = some (.int .i64 y.vNext) ∧ w'.cell? ⟨E, 1, none⟩ = some (.int .i64 y.vDoc) ∧ w'.cell? ⟨E, 2, none⟩ = some (.slice (some ⟨gN, 0, none⟩) y.vNodes.length kN5) ∧ w'.cell? ⟨E, 3, none⟩ = some (.slice aO5 y.vObjs.length kO5) ∧ w'.cell? ⟨E, 4, none⟩ = some (.slice aG5 y.vGlobals.length kG5)) (by kernel_rfl) (fv5 hD2.out.bE) (fun hHeld => ?_)
     refine tk 0 ?_
     refine tk 1 ?_
     refine tk 2 ?_
     refine tk 3 ?_
     refine tk 4 ?_
     refine tk 5 ?_
     refine tk 7 ?_
     refine rd1 6 (fun K hK => ?_)
     go_simp
     refine (below_any (by exact hD2.out.hR) (y.vNodes.length : Int) (by omega) (by omega)).mono ?_
     rintro e u ⟨v, rfl, v0, v1, hru, hgu⟩
     obtain ⟨k, rfl⟩ := Int.eq_ofNat_of_zero_le v0
     have hk : k < y.vNodes.length := by omega
     have hD3 : Hid _ := hD2.out.grow hlt.out hru ⟨hgu.os, hgu.tape, hgu.output, hgu.size, hgu.block⟩
     clear hru hgu
     refine hK.out _ _ (fv5 hD3.out.bE) (fun hHeld => ?_)
     clear hK K
     refine rd1 8 (fun K hK => ?_)
     go_simp
     refine (off_any (by exact hD3.out.hR) 0 5 (by omega) (by omega) (by omega) (by omega)).mono ?_
     rintro e u4 ⟨v9, rfl, hv9, hru, hgu⟩
     have hD4 : Hid _ := hD3.out.grow hlt.out hru hgu
     clear hru hgu
     refine hK.out _ _ (fv5 hD4.out.bE) (fun hHeld => ?_)
     clear hK K
     refine tk 9 ?_
     refine tk 10 ?_
     refine rd1 11 (fun K hK => ?_)
     obtain ⟨lc, ufo, hN, hbx⟩ := hD4.out.nodePar hlt.out hk hv9
     have hD5 : Hid (HD w g a n cap E ({ y with vNodes := y.vNodes.set k { y.vNodes[k] with vParent := v9 } }) (cHp y (some ⟨gN, 0, none⟩) kN5 aO5 kO5 aG5 kG5) (u4.setCell ⟨gN, k * 6 + 2, none⟩ (.int .i64 v9))) := hN
     go_simp
     clear lc ufo hN hbx
     refine hK.out _ _ (fv5 hD5.out.bE) (fun hHeld => ?_)
     clear hK K
     refine wpAnyH_done (by kernel_rfl) ?_ _
     clear hHeld
     generalize (u4.setCell ⟨gN, k * 6 + 2, none⟩ (.int .i64 v9)) = u5 at hD5 ⊢
     go_wp2_with fail
     go_meet
     exact ⟨_, _, HSz.setN hSz.out hk v9, hfy.out, hD5.out⟩
   · by_cases hO : 0 < y.vObjs.length
     · obtain ⟨gO, hgO⟩ : ∃ gO, aO5 = some ⟨gO, 0, none⟩ := by
        obtain ⟨fs, hp, _⟩ := hD9.out.hp
        obtain ⟨gO, e, _⟩ := hp.posO hO
        exact ⟨gO, e⟩
       subst hgO
       have d3 := hD9.out.bE.cell 3 rfl
       have hOi : (0 : Int) < (y.vObjs.length : Int) := by omega
       go_upto_region 13 with fail
       clear d3
       have hD2 : Hid (HD w g a n cap E y (cHp y aN5 kN5 (some ⟨gO, 0, none⟩) kO5 aG5 kG5) w9.drew) := hD9.out.below (Below.drew (Below.refl _ _))
       clear hD9
       refine wp_region_held_drew (S := fun w' => w'.cell? ⟨E, 0, none⟩ = some (.int .i64 y.vNext) ∧ w'.cell? ⟨E, 1, none⟩ = some (.int .i64 y.vDoc) ∧ w'.cell? ⟨E, 2, none⟩ = some (.slice aN5 y.vNodes.length kN5) ∧ w'.cell? ⟨E, 3, none⟩ = some (.slice (some ⟨gO, 0, none⟩) y.vObjs.length kO5) ∧ w'.cell? ⟨E, 4, none⟩ = some (.slice aG5 y.vGlobals.length kG5)) (by kernel_rfl) (fv5 hD2.out.bE) (fun hHeld => ?_)
       refine tk 0 ?_
       refine tk 1 ?_
       refine tk 2 ?_
       refine rd1 3 (fun K hK => ?_)
       go_simp
       refine (off_any (by exact hD2.out.hR) 0 5 (by omega) (by omega) (by omega) (by omega)).mono ?_
       rintro e u4 ⟨v9, rfl, hv9, hru, hgu⟩
       have hD4 : Hid _ := hD2.out.grow hlt.out hru ⟨hgu.os, hgu.tape, hgu.output, hgu.size, hgu.block⟩
       clear hru hgu
       refine hK.out _ _ (fv5 hD4.out.bE) (fun hHeld => ?_)
       clear hK K
       refine tk 4 ?_
       refine tk 5 ?_
       refine rd1 6 (fun K hK => ?_)
       obtain ⟨lc, ufo, hN⟩ := hD4.out.objNode hlt.out hO hv9
       have hD5 : Hid (HD w g a n cap E ({ y with vObjs := y.vObjs.set 0 { y.vObjs[0] with vNode := v9 } }) (cHp y aN5 kN5 (some ⟨gO, 0, none⟩) kO5 aG5 kG5) (u4.setCell ⟨gO, 1, none⟩ (.int .i64 v9))) := hN
       go_simp
       clear lc ufo hN
       refine hK.out _ _ (fv5 hD5.out.bE) (fun hHeld => ?_)
       clear hK K
       refine wpAnyH_done (by kernel_rfl) ?_ _
       clear hHeld
       generalize (u4.setCell ⟨gO, 1, none⟩ (.int .i64 v9)) = u5 at hD5 ⊢
       go_wp2_with fail
       go_meet
       exact ⟨_, _, HSz.setO hSz.out hO v9, FW.setN hfy.out hO v9, hD5.out⟩
     · have d3 := hD9.out.bE.cell 3 rfl
       have hO0 : y.vObjs.length = 0 := by omega
       rw [hO0] at d3
       go_wp2_with fail
       go_meet
       exact ⟨_, _, hSz.out, hfy.out, hD9.out⟩
   · go_wp2_with fail
     refine (off_any (by exact hD9.out.hR) 1 3 (by omega) (by omega) (by omega) (by omega)).mono ?_
     rintro e u4 ⟨v5, rfl, hv5, hru, hgu⟩
     have hD3 : Hid _ := hD9.out.grow hlt.out hru hgu
     have u1 := hD3.out.bE.cell 1 rfl
     have uf := hD3.out.bE.unfrozen
     have hD5 := hD3.out.turn1 hlt.out hv5
     clear hru hgu
     go_wp2_with fail
     go_meet
     exact ⟨{ y with vDoc := v5 }, _, hSz.out, hfy.out, hD5⟩
   · go_wp2_with fail
     go_meet
     exact ⟨_, _, hSz.out, hfy.out, hD9.out⟩
  case rest =>
   obtain ⟨z, cs, hsz, hfz, hz0⟩ := hcut
   obtain ⟨aN6, kN6, aO6, kO6, aG6, kG6, rfl⟩ := hz0.form
   have hZ : Hid (HD w g a n cap E z (cHp z aN6 kN6 aO6 kO6 aG6 kG6) wc) := hz0
   clear hz0 hD9
   obtain ⟨u0, u1, u2, u3, u4⟩ := fv5 hZ.out.bE
   obtain ⟨z0, z1, z2, z3, z4⟩ := fv5 hZ.out.bR
   have uz := hZ.out.bR.unfrozen
   go_wp2_with fail
   have bF : Box (putCells wc w.heap.size 0 (cHp z aN6 kN6 aO6 kO6 aG6 kG6)) w.heap.size (cHp z aN6 kN6 aO6 kO6 aG6 kG6) 28 := Box.puts5 hZ.out.bR
   obtain ⟨g0, g1, g2, g3, g4⟩ := fv5 bF
   have hgf : w.grownBy (putCells wc w.heap.size 0 (cHp z aN6 kN6 aO6 kO6 aG6 kG6)) (some g) := grown_putsL _ hZ.out.hG (Nat.le_refl _)
   have hrf : RdAt (putCells wc w.heap.size 0 (cHp z aN6 kN6 aO6 kO6 aG6 kG6)) g a n cap := hZ.out.hR.keep (fun b hb => putCells_other _ _ _ _ _ (by have := hlt.out; omega))
   obtain ⟨fs, hp, hn⟩ := hZ.out.hp
   have hpf : HeapP (putCells wc w.heap.size 0 (cHp z aN6 kN6 aO6 kO6 aG6 kG6)) (cHp z aN6 kN6 aO6 kO6 aG6 kG6) z fs := hp.stays (fun b hb => putCells_other _ _ _ _ _ (by have := hn b hb; omega))
   exact bodyPost_ret (v := .agg (List.toArray (cHp z aN6 kN6 aO6 kO6 aG6 kG6))) (by simp only [putCells] at g0 g1 g2 g3 g4; simp [results, Tryz.results24, go_sem, g0, g1, g2, g3, g4]) rfl ⟨⟨z, _, fs, rfl, hsz, hfz, hpf, fun b hb => Nat.le_of_lt (hn b hb).1⟩, hrf, hgf⟩
end Go.Proofs.YtdnembnlomnceaaGreat
