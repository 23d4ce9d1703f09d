/- What is drawn as a listener, and as a name: walked. -/
import Derived.Test.YtdnembnlomnceaaGreatTakeMore
import Derived.Test.YtdnembnlomnceaaGreatDrawsNum
import Derived.Test.YtdnembnlomnceaaGreatAbb
import Derived.Test.YtdnembnlomnceaaGreatRecs
import Derived.Deep.DeepCutAuto
import Derived.Deep.CutBlock
namespace Go.Proofs.YtdnembnlomnceaaGreat
open Go.RowKit Go.Deep
theorem as_goal {P : Program} {md : Region.Mode} {ops : Array Oper} {Q : Exit → Act → World → Prop} {fuel : Nat} {l : Array Bool} {a : Act} {w : World} (h : ∀ (Q' : Exit → Act → World → Prop) (G : Nat → Array Bool → Act → World → Prop), Hid (∀ a w, Q .normal a w → Q' .normal a w) → Hid (∀ f l a w, wpAnyH P md ops (NoPanic Q') (fun _ => True) f l a w ↔ G f l a w) → G fuel l a w) : wpAnyH P md ops (NoPanic Q) (fun _ => True) fuel l a w := h Q (wpAnyH P md ops (NoPanic Q) (fun _ => True)) (fun _ _ h => h) (fun _ _ _ _ => Iff.rfl)
abbrev pB (b : Nat) : Value := .pointer (some ⟨b, 0, none⟩)
abbrev lF (g r : Nat) (v3 v4 v6 v7 v8 v10 v12 v13 v15 v16 v17 v18 : Value) : Act := ⟨#[pB g, undef, pB r, v3, v4, pB g, v6, v7, v8, pB g, v10, pB g, v12, v13, pB g, v15, v16, v17, v18, undef, undef, undef, undef, undef, undef, undef], []⟩
def lB (l : List Nat) : Array Bool := l.foldl (fun a i => a.setIfInBounds i true) (Array.replicate 17 false)
def lisT : List ByteArray := [⟨#[99, 108, 105, 99, 107]⟩, ⟨#[107, 101, 121]⟩]
def lisN : List ByteArray := [⟨#[102]⟩, ⟨#[103]⟩, ⟨#[104, 104]⟩]
/-- what holds while the listener's parts are drawn -/
structure LX (w : World) (g : Nat) (a : Option Addr) (n cap : Nat) (W : World) : Prop where
 hG : w.grownBy W (some g)
 hR : RdAt W g a n cap
 bR : Box W w.heap.size [.string ⟨#[]⟩, .bool false, .bool false, .int .i64 0, .string ⟨#[]⟩] 89
def TX (T : List ByteArray) (g : Nat) (W : World) (B : Nat) : Prop := Box W B (T.map Value.string) 9 ∧ g < B
def EX (w W : World) (E : Nat) : Prop := Box W E [.string ⟨#[]⟩, .bool false, .bool false, .int .i64 0, .string ⟨#[]⟩] 89 ∧ w.heap.size < E
theorem LX.grow {w W u : World} {g : Nat} {a : Option Addr} {n cap : Nat} (h : LX w g a n cap W) (hlt : g < w.heap.size) (r : RdAt u g a n cap) (q : W.grownBy u (some g)) : LX w g a n cap u := ⟨grown_on h.hG q, r, box_other h.bR (by omega) q⟩
theorem LX.alloc {w W : World} {g : Nat} {a : Option Addr} {n cap : Nat} (h : LX w g a n cap W) (o : Obj) : LX w g a n cap (W.alloc o) := by
 have q : Below W.heap.size W (W.alloc o) := (Below.refl _ _).alloc (Nat.le_refl _) _
 exact ⟨grown_on h.hG (grown_of_below q _), h.hR.below q, h.bR.below q h.bR.lt⟩
theorem LX.tab {w W : World} {g : Nat} {a : Option Addr} {n cap : Nat} (h : LX w g a n cap W) (hlt : g < w.heap.size) (T : List ByteArray) : TX T g (W.alloc (.cells (T.map Value.string).toArray 9)) W.heap.size := ⟨Box.new W _ _, by have := h.hG.size; omega⟩
theorem LX.new {w W : World} {g : Nat} {a : Option Addr} {n cap : Nat} (h : LX w g a n cap W) : EX w (W.alloc (.cells #[.string ⟨#[]⟩, .bool false, .bool false, .int .i64 0, .string ⟨#[]⟩] 89)) W.heap.size := ⟨Box.new W _ _, h.bR.lt⟩
theorem TX.grow {T : List ByteArray} {W u : World} {g B : Nat} (h : TX T g W B) (q : W.grownBy u (some g)) : TX T g u B := ⟨box_other h.1 (by have := h.2; omega) q, h.2⟩
theorem TX.alloc {T : List ByteArray} {W : World} {g B : Nat} (h : TX T g W B) (o : Obj) : TX T g (W.alloc o) B := ⟨h.1.alloc _, h.2⟩
theorem EX.grow {w W u : World} {g E : Nat} (h : EX w W E) (hlt : g < w.heap.size) (q : W.grownBy u (some g)) : EX w u E := ⟨box_other h.1 (by have := h.2; omega) q, h.2⟩
theorem EX.alloc {w W : World} {E : Nat} (h : EX w W E) (o : Obj) : EX w (W.alloc o) E := ⟨h.1.alloc _, h.2⟩
theorem TX.get {T : List ByteArray} {W : World} {g B k : Nat} (h : TX T g W B) (hT : (T.all fun s => decide (s.size ≤ 6)) = true) (hk : k < T.length) : ∃ s : ByteArray, s.size ≤ 6 ∧ W.cell? ⟨B, k, none⟩ = some (.string s) := ⟨T[k], mem_le hT k hk, box_str h.1 k hk⟩
/-- a listener that is being drawn, in its box -/
structure LisS (w : World) (g : Nat) (a : Option Addr) (n cap E : Nat) (x : ListenerD) (W : World) : Prop where
 hG : w.grownBy W (some g)
 hR : RdAt W g a n cap
 bR : Box W w.heap.size [.string ⟨#[]⟩, .bool false, .bool false, .int .i64 0, .string ⟨#[]⟩] 89
 bE : Box W E [.string x.vType, .bool x.vCapture, .bool x.vOnce, .int .i64 x.vStop, .string x.vName] 89
 hE : w.heap.size < E
 z1 : x.vType.size ≤ 6
 z2 : x.vName.size ≤ 6
theorem LisS.first {w W : World} {g : Nat} {a : Option Addr} {n cap E : Nat} {s1 s2 : ByteArray} {b1 b2 : Bool} (hlt : g < w.heap.size) (hG : w.grownBy W (some g)) (hR : RdAt W g a n cap) (bR : Box W w.heap.size [.string ⟨#[]⟩, .bool false, .bool false, .int .i64 0, .string ⟨#[]⟩] 89) (bE : Box W E [.string ⟨#[]⟩, .bool false, .bool false, .int .i64 0, .string ⟨#[]⟩] 89) (hE : w.heap.size < E) (z1 : s1.size ≤ 6) (z2 : s2.size ≤ 6) :
 LisS w g a n cap E ⟨s1, b1, b2, 0, s2⟩ (putCells W E 0 [.string s1, .bool b1, .bool b2, .int .i64 0, .string s2]) := by
 have q := putCells_below [.string s1, .bool b1, .bool b2, .int .i64 0, .string s2] w.heap.size W W E 0 (by omega) (Below.refl _ _)
 refine ⟨⟨q.os.trans hG.os, q.tape.trans hG.tape, q.output.trans hG.output, Nat.le_trans hG.size q.size, fun b h1 h2 => (putCells_other _ _ _ _ _ (by omega)).trans (hG.block b h1 h2)⟩, hR.keep (fun b hb => putCells_other _ _ _ _ _ (by omega)), (putCells_other _ _ _ _ _ (by omega)).trans bR, ((((bE.set (i := 0) _).set (i := 1) _).set (i := 2) _).set (i := 3) _).set (i := 4) _, hE, z1, z2⟩
theorem grown_putsL {w W : World} {g E o : Nat} (cs : List Value) (h : w.grownBy W (some g)) (hE : w.heap.size ≤ E) : w.grownBy (putCells W E o cs) (some g) := by
 induction cs generalizing o W with
 | nil => exact h
 | cons c cs ih => exact ih (o := o + 1) ⟨h.os, h.tape, h.output, by rw [set_size]; exact h.size, fun x hx hne => (set_other (by omega) _).trans (h.block x hx hne)⟩
theorem LisS.grow {w W W' : World} {g : Nat} {a : Option Addr} {n cap E : Nat} {x : ListenerD} (h : LisS w g a n cap E x W) (hlt : g < w.heap.size) (hr : RdAt W' g a n cap) (q : W.grownBy W' (some g)) : LisS w g a n cap E x W' :=
 ⟨grown_on h.hG q, hr, box_other h.bR (by omega) q, box_other h.bE (by have := h.hE; omega) q, h.hE, h.z1, h.z2⟩
theorem LisS.stop {w W : World} {g : Nat} {a : Option Addr} {n cap E : Nat} {x : ListenerD} {v : Int} (h : LisS w g a n cap E x W) (hlt : g < w.heap.size) : LisS w g a n cap E ⟨x.vType, x.vCapture, x.vOnce, v, x.vName⟩ (World.setCell W ⟨E, 3, none⟩ (.int .i64 v)) := by
 have hE := h.hE
 exact ⟨grown_putsL (o := 3) [.int .i64 v] h.hG (by omega), h.hR.keep (fun b hb => set_other (by omega) _), (set_other (by omega) _).trans h.bR, h.bE.set (i := 3) _, hE, h.z1, h.z2⟩
set_option maxRecDepth 100000 in
set_option maxHeartbeats 8000000 in
theorem listener_any {w : World} {g : Nat} {a : Option Addr} {n cap : Nat} (h : RdAt w g a n cap) :
 Calls Tryz.prog 83 #[.pointer (some ⟨g, 0, none⟩)] w fun e w' => ∃ x : ListenerD, e = .returned (.agg #[.string x.vType, .bool x.vCapture, .bool x.vOnce, .int .i64 x.vStop, .string x.vName]) ∧ x.vType.size ≤ 6 ∧ x.vName.size ≤ 6 ∧ InI x.vStop ∧ RdAt w' g a n cap ∧ w.grownBy w' (some g) := by
 have h' : Hid (RdAt w g a n cap) := h
 have hlt := h.lt
 clear h
 have bR0 : Hid (Box (w.alloc (.cells #[.string ⟨#[]⟩, .bool false, .bool false, .int .i64 0, .string ⟨#[]⟩] 89)) w.heap.size [.string ⟨#[]⟩, .bool false, .bool false, .int .i64 0, .string ⟨#[]⟩] 89) := Box.new w _ _
 have hb0 : Hid (Below w.heap.size w (w.alloc (.cells #[.string ⟨#[]⟩, .bool false, .bool false, .int .i64 0, .string ⟨#[]⟩] 89))) := (Below.refl _ _).alloc (Nat.le_refl _) _
 go_enter Tryz.func83, Tryz.ntmps83
 go_upto_region 1 with fail
 generalize (w.alloc (.cells #[.string ⟨#[]⟩, .bool false, .bool false, .int .i64 0, .string ⟨#[]⟩] 89)) = w0 at bR0 hb0 ⊢
 have hG0 : Hid (w.grownBy w0.drew (some g)) := grown_of_below (Below.drew hb0.out) _
 have hR0 : Hid (RdAt w0.drew g a n cap) := (RdAt.below h'.out hb0.out).below (Below.drew (Below.refl _ _))
 have bR1 : Hid (Box w0.drew w.heap.size [.string ⟨#[]⟩, .bool false, .bool false, .int .i64 0, .string ⟨#[]⟩] 89) := bR0.out.below (Below.drew (Below.refl _ _)) bR0.out.lt
 clear hb0 bR0 h'
 refine wp_region_noPanic ?_
 refine wp_region_held_drew (S := fun _ => True) (by kernel_rfl) trivial (fun hHeld => ?_)
 refine as_goal (fun Q' G hQQ hGG => ?_)
 have L4_123_11 : Hid (∀ (W : World) (l : Array Bool) (k1 : Nat) (b1 : Bool) (b2 : Bool) (k2 : Nat) (B1 : Nat) (B2 : Nat) (EL : Nat) (s1 : ByteArray) (s2 : ByteArray), l = (lB [0, 1, 2, 3, 4, 5, 6, 7, 8, 9, 10, 11, 12, 13, 14, 15]) → LX w g a n cap W → EX w W EL → s1.size ≤ 6 → s2.size ≤ 6 → G 1 l (lF g w.heap.size (pB EL) (.slice (some ⟨B1, 0, none⟩) 2 2) (.int .i64 (k1 : Int)) (.pointer (some ⟨B1, k1, none⟩)) (.string s1) (.bool b1) (.bool b2) (.slice (some ⟨B2, 0, none⟩) 3 3) (.int .i64 (k2 : Int)) (.pointer (some ⟨B2, k2, none⟩)) (.string s2) (.agg #[.string s1, .bool b1, .bool b2, .int .i64 0, .string s2])) W) := by
  intro W l k1 b1 b2 k2 B1 B2 EL s1 s2 hl hX xE z1 z2
  subst hl
  have hH : True := trivial
  refine (hGG.out _ _ _ _).1 ?_
  have hlt1 : w.heap.size + 1 ≤ W.heap.size := hX.bR.lt
  have bE : Hid (Box W EL [.string ⟨#[]⟩, .bool false, .bool false, .int .i64 0, .string ⟨#[]⟩] 89) := xE.1
  obtain ⟨u0, u1, u2, u3, u4⟩ := fv5 bE.out
  have uf := bE.out.unfrozen
  refine rd1 16 (fun K hK => ?_)
  go_simp
  refine hK.out _ _ trivial (fun _ => ?_)
  clear hK K
  refine wpAnyH_done (by kernel_rfl) ?_ _
  refine NoPanic.normal ?_
  refine hQQ.out _ _ ?_
  have hXX : Hid (LisS w g a n cap EL ⟨s1, b1, b2, 0, s2⟩ (putCells W EL 0 [.string s1, .bool b1, .bool b2, .int .i64 0, .string s2])) := LisS.first hlt hX.hG hX.hR hX.bR xE.1 xE.2 z1 z2
  clear hX xE u0 u1 u2 u3 u4 uf bE hlt1
  simp only [putCells] at hXX
  have hX := hXX
  clear hXX
  generalize (((((World.setCell W ⟨EL, 0, none⟩ (.string s1)).setCell ⟨EL, 1, none⟩ (.bool b1)).setCell ⟨EL, 2, none⟩ (.bool b2)).setCell ⟨EL, 3, none⟩ (.int .i64 0)).setCell ⟨EL, 4, none⟩ (.string s2)) = w5 at hX ⊢
  clear z1 z2 hGG hQQ hH
  go_wp2_with fail
  refine (once_any (by exact hX.out.hR) 5 (by omega) (by omega)).mono ?_
  rintro e u ⟨b5, rfl, hru, hgu⟩
  have hX2 : Hid (LisS w g a n cap EL ⟨s1, b1, b2, 0, s2⟩ u) := hX.out.grow hlt hru hgu
  clear hru hgu hX
  cases b5
  · skip
    obtain ⟨u0, u1, u2, u3, u4⟩ := fv5 hX2.out.bE
    obtain ⟨z0, z1, z2, z3, z4⟩ := fv5 hX2.out.bR
    have uz := hX2.out.bR.unfrozen
    go_wp2_with fail
    have hF : Box (putCells u w.heap.size 0 [.string s1, .bool b1, .bool b2, .int .i64 0, .string s2]) w.heap.size [.string s1, .bool b1, .bool b2, .int .i64 0, .string s2] 89 := ((((Box.set (i := 0) hX2.out.bR _).set (i := 1) _).set (i := 2) _).set (i := 3) _).set (i := 4) _
    obtain ⟨g0, g1, g2, g3, g4⟩ := fv5 hF
    have hgf : w.grownBy (putCells u w.heap.size 0 [.string s1, .bool b1, .bool b2, .int .i64 0, .string s2]) (some g) := grown_putsL _ hX2.out.hG (Nat.le_refl _)
    have hrf : RdAt (putCells u w.heap.size 0 [.string s1, .bool b1, .bool b2, .int .i64 0, .string s2]) g a n cap := hX2.out.hR.keep (fun b hb => putCells_other _ _ _ _ _ (by omega))
    exact bodyPost_ret (v := .agg (List.toArray [.string s1, .bool b1, .bool b2, .int .i64 0, .string s2])) (by simp only [putCells] at g0 g1 g2 g3 g4; simp [results, Tryz.results83, go_sem, g0, g1, g2, g3, g4]) rfl ⟨⟨s1, b1, b2, 0, s2⟩, rfl, hX2.out.z1, hX2.out.z2, (by show InI 0; unfold InI; omega), hrf, hgf⟩
  · go_wp2_with fail
    refine (below_any (by exact hX2.out.hR) 2 (by omega) (by omega)).mono ?_
    rintro e u7 ⟨v7, rfl, v70, v71, hru, hgu⟩
    have hX3 : Hid (LisS w g a n cap EL ⟨s1, b1, b2, 0, s2⟩ u7) := hX2.out.grow hlt hru hgu
    have hw1 : IntKind.i64.wrap (1 + v7) = 1 + v7 := by rw [IntKind.wrap_i64]; omega
    clear hru hgu hX2
    have hX4 : Hid (LisS w g a n cap EL ⟨s1, b1, b2, 1 + v7, s2⟩ (World.setCell u7 ⟨EL, 3, none⟩ (.int .i64 (1 + v7)))) := hX3.out.stop hlt
    have u3 := hX3.out.bE.cell 3 rfl
    have uf := hX3.out.bE.unfrozen
    go_upto_region 4 with fail
    generalize (World.setCell u7 ⟨EL, 3, none⟩ (.int .i64 (1 + v7))) = u8 at hX4 ⊢
    clear u3 uf hX3
    obtain ⟨u0, u1, u2, u3, u4⟩ := fv5 hX4.out.bE
    obtain ⟨z0, z1, z2, z3, z4⟩ := fv5 hX4.out.bR
    have uz := hX4.out.bR.unfrozen
    go_wp2_with fail
    have hF : Box (putCells u8 w.heap.size 0 [.string s1, .bool b1, .bool b2, .int .i64 (1 + v7), .string s2]) w.heap.size [.string s1, .bool b1, .bool b2, .int .i64 (1 + v7), .string s2] 89 := ((((Box.set (i := 0) hX4.out.bR _).set (i := 1) _).set (i := 2) _).set (i := 3) _).set (i := 4) _
    obtain ⟨g0, g1, g2, g3, g4⟩ := fv5 hF
    have hgf : w.grownBy (putCells u8 w.heap.size 0 [.string s1, .bool b1, .bool b2, .int .i64 (1 + v7), .string s2]) (some g) := grown_putsL _ hX4.out.hG (Nat.le_refl _)
    have hrf : RdAt (putCells u8 w.heap.size 0 [.string s1, .bool b1, .bool b2, .int .i64 (1 + v7), .string s2]) g a n cap := hX4.out.hR.keep (fun b hb => putCells_other _ _ _ _ _ (by omega))
    exact bodyPost_ret (v := .agg (List.toArray [.string s1, .bool b1, .bool b2, .int .i64 (1 + v7), .string s2])) (by simp only [putCells] at g0 g1 g2 g3 g4; simp [results, Tryz.results83, go_sem, g0, g1, g2, g3, g4]) rfl ⟨⟨s1, b1, b2, (1 + v7), s2⟩, rfl, hX4.out.z1, hX4.out.z2, (by show InI ((1 + v7)); unfold InI; omega), hrf, hgf⟩
 have L4_123_10 : Hid (∀ (W : World) (l : Array Bool) (k1 : Nat) (b1 : Bool) (b2 : Bool) (k2 : Nat) (B1 : Nat) (B2 : Nat) (EL : Nat) (s1 : ByteArray), l = (lB [0, 1, 2, 3, 4, 5, 6, 7, 8, 9, 10, 11, 12, 15]) → LX w g a n cap W → (k2 : Int) < 3 → TX lisN g W B2 → EX w W EL → s1.size ≤ 6 → G 3 l (lF g w.heap.size (pB EL) (.slice (some ⟨B1, 0, none⟩) 2 2) (.int .i64 (k1 : Int)) (.pointer (some ⟨B1, k1, none⟩)) (.string s1) (.bool b1) (.bool b2) (.slice (some ⟨B2, 0, none⟩) 3 3) (.int .i64 (k2 : Int)) (.pointer (some ⟨B2, k2, none⟩)) undef undef) W) := by
  intro W l k1 b1 b2 k2 B1 B2 EL s1 hl hX h2 x2 xE z1
  subst hl
  have hH : True := trivial
  refine (hGG.out _ _ _ _).1 ?_
  refine rd1 13 (fun K hK => ?_)
  · obtain ⟨s2, hz, hc⟩ := x2.get (by decide) (show k2 < lisN.length by show k2 < 3; omega)
    go_simp
    refine hK.out _ _ trivial fun _ => ?_
    refine tk 14 (v := .agg #[.string s1, .bool b1, .bool b2, .int .i64 0, .string s2]) ?_
    exact (hGG.out _ _ _ _).2 (L4_123_11.out _ _ _ _ _ _ _ _ _ _ _ (by kernel_rfl) hX xE z1 hz)
 have L4_123_01 : Hid (∀ (W : World) (l : Array Bool) (k1 : Nat) (b1 : Bool) (b2 : Bool) (k2 : Nat) (B1 : Nat) (B2 : Nat) (EL : Nat) (s2 : ByteArray), l = (lB [0, 1, 2, 3, 5, 6, 7, 8, 9, 10, 11, 12, 13, 15]) → LX w g a n cap W → (k1 : Int) < 2 → TX lisT g W B1 → EX w W EL → s2.size ≤ 6 → G 3 l (lF g w.heap.size (pB EL) (.slice (some ⟨B1, 0, none⟩) 2 2) (.int .i64 (k1 : Int)) (.pointer (some ⟨B1, k1, none⟩)) undef (.bool b1) (.bool b2) (.slice (some ⟨B2, 0, none⟩) 3 3) (.int .i64 (k2 : Int)) (.pointer (some ⟨B2, k2, none⟩)) (.string s2) undef) W) := by
  intro W l k1 b1 b2 k2 B1 B2 EL s2 hl hX h1 x1 xE z2
  subst hl
  have hH : True := trivial
  refine (hGG.out _ _ _ _).1 ?_
  refine rd1 4 (fun K hK => ?_)
  · obtain ⟨s1, hz, hc⟩ := x1.get (by decide) (show k1 < lisT.length by show k1 < 2; omega)
    go_simp
    refine hK.out _ _ trivial fun _ => ?_
    refine tk 14 (v := .agg #[.string s1, .bool b1, .bool b2, .int .i64 0, .string s2]) ?_
    exact (hGG.out _ _ _ _).2 (L4_123_11.out _ _ _ _ _ _ _ _ _ _ _ (by kernel_rfl) hX xE hz z2)
 have L4_12_11 : Hid (∀ (W : World) (l : Array Bool) (k1 : Nat) (b1 : Bool) (b2 : Bool) (k2 : Nat) (B1 : Nat) (B2 : Nat) (s1 : ByteArray) (s2 : ByteArray), l = (lB [0, 1, 2, 3, 4, 5, 6, 7, 8, 9, 10, 11, 12, 13, 14]) → LX w g a n cap W → s1.size ≤ 6 → s2.size ≤ 6 → G 2 l (lF g w.heap.size undef (.slice (some ⟨B1, 0, none⟩) 2 2) (.int .i64 (k1 : Int)) (.pointer (some ⟨B1, k1, none⟩)) (.string s1) (.bool b1) (.bool b2) (.slice (some ⟨B2, 0, none⟩) 3 3) (.int .i64 (k2 : Int)) (.pointer (some ⟨B2, k2, none⟩)) (.string s2) (.agg #[.string s1, .bool b1, .bool b2, .int .i64 0, .string s2])) W) := by
  intro W l k1 b1 b2 k2 B1 B2 s1 s2 hl hX z1 z2
  subst hl
  have hH : True := trivial
  refine (hGG.out _ _ _ _).1 ?_
  refine rd1 15 (fun K hK => ?_)
  · go_simp
    refine hK.out _ _ trivial fun _ => ?_
    exact (hGG.out _ _ _ _).2 (L4_123_11.out _ _ _ _ _ _ _ _ _ _ _ (by kernel_rfl) (hX.alloc _) hX.new z1 z2)
 clear L4_123_11
 have L4_13_10 : Hid (∀ (W : World) (l : Array Bool) (k1 : Nat) (b1 : Bool) (b2 : Bool) (k2 : Nat) (B1 : Nat) (EL : Nat) (s1 : ByteArray), l = (lB [0, 1, 2, 3, 4, 5, 6, 7, 8, 10, 11, 15]) → LX w g a n cap W → (k2 : Int) < 3 → EX w W EL → s1.size ≤ 6 → G 5 l (lF g w.heap.size (pB EL) (.slice (some ⟨B1, 0, none⟩) 2 2) (.int .i64 (k1 : Int)) (.pointer (some ⟨B1, k1, none⟩)) (.string s1) (.bool b1) (.bool b2) undef (.int .i64 (k2 : Int)) undef undef undef) W) := by
  intro W l k1 b1 b2 k2 B1 EL s1 hl hX h2 xE z1
  subst hl
  have hH : True := trivial
  refine (hGG.out _ _ _ _).1 ?_
  refine rd1 9 (fun K hK => ?_)
  · go_simp
    refine hK.out _ _ trivial fun _ => ?_
    refine tk 12 (v := .pointer (some ⟨W.heap.size, k2, none⟩)) ?_
    exact (hGG.out _ _ _ _).2 (L4_123_10.out _ _ _ _ _ _ _ _ _ _ (by kernel_rfl) (hX.alloc _) h2 (hX.tab hlt _) (xE.alloc _) z1)
 have L4_123_00 : Hid (∀ (W : World) (l : Array Bool) (k1 : Nat) (b1 : Bool) (b2 : Bool) (k2 : Nat) (B1 : Nat) (B2 : Nat) (EL : Nat), l = (lB [0, 1, 2, 3, 5, 6, 7, 8, 9, 10, 11, 12, 15]) → LX w g a n cap W → (k1 : Int) < 2 → (k2 : Int) < 3 → TX lisT g W B1 → TX lisN g W B2 → EX w W EL → G 4 l (lF g w.heap.size (pB EL) (.slice (some ⟨B1, 0, none⟩) 2 2) (.int .i64 (k1 : Int)) (.pointer (some ⟨B1, k1, none⟩)) undef (.bool b1) (.bool b2) (.slice (some ⟨B2, 0, none⟩) 3 3) (.int .i64 (k2 : Int)) (.pointer (some ⟨B2, k2, none⟩)) undef undef) W) := by
  intro W l k1 b1 b2 k2 B1 B2 EL hl hX h1 h2 x1 x2 xE
  subst hl
  have hH : True := trivial
  refine (hGG.out _ _ _ _).1 ?_
  refine rd2 4 13 (fun K hK => ?_) (fun K hK => ?_)
  · obtain ⟨s1, hz, hc⟩ := x1.get (by decide) (show k1 < lisT.length by show k1 < 2; omega)
    go_simp
    refine hK.out _ _ trivial fun _ => ?_
    exact (hGG.out _ _ _ _).2 (L4_123_10.out _ _ _ _ _ _ _ _ _ _ (by kernel_rfl) hX h2 x2 xE hz)
  · obtain ⟨s2, hz, hc⟩ := x2.get (by decide) (show k2 < lisN.length by show k2 < 3; omega)
    go_simp
    refine hK.out _ _ trivial fun _ => ?_
    exact (hGG.out _ _ _ _).2 (L4_123_01.out _ _ _ _ _ _ _ _ _ _ (by kernel_rfl) hX h1 x1 xE hz)
 have L4_23_01 : Hid (∀ (W : World) (l : Array Bool) (k1 : Nat) (b1 : Bool) (b2 : Bool) (k2 : Nat) (B2 : Nat) (EL : Nat) (s2 : ByteArray), l = (lB [1, 2, 5, 6, 7, 8, 9, 10, 11, 12, 13, 15]) → LX w g a n cap W → (k1 : Int) < 2 → EX w W EL → s2.size ≤ 6 → G 5 l (lF g w.heap.size (pB EL) undef (.int .i64 (k1 : Int)) undef undef (.bool b1) (.bool b2) (.slice (some ⟨B2, 0, none⟩) 3 3) (.int .i64 (k2 : Int)) (.pointer (some ⟨B2, k2, none⟩)) (.string s2) undef) W) := by
  intro W l k1 b1 b2 k2 B2 EL s2 hl hX h1 xE z2
  subst hl
  have hH : True := trivial
  refine (hGG.out _ _ _ _).1 ?_
  refine rd1 0 (fun K hK => ?_)
  · go_simp
    refine hK.out _ _ trivial fun _ => ?_
    refine tk 3 (v := .pointer (some ⟨W.heap.size, k1, none⟩)) ?_
    exact (hGG.out _ _ _ _).2 (L4_123_01.out _ _ _ _ _ _ _ _ _ _ (by kernel_rfl) (hX.alloc _) h1 (hX.tab hlt _) (xE.alloc _) z2)
 have L4_12_01 : Hid (∀ (W : World) (l : Array Bool) (k1 : Nat) (b1 : Bool) (b2 : Bool) (k2 : Nat) (B1 : Nat) (B2 : Nat) (s2 : ByteArray), l = (lB [0, 1, 2, 3, 5, 6, 7, 8, 9, 10, 11, 12, 13]) → LX w g a n cap W → (k1 : Int) < 2 → TX lisT g W B1 → s2.size ≤ 6 → G 4 l (lF g w.heap.size undef (.slice (some ⟨B1, 0, none⟩) 2 2) (.int .i64 (k1 : Int)) (.pointer (some ⟨B1, k1, none⟩)) undef (.bool b1) (.bool b2) (.slice (some ⟨B2, 0, none⟩) 3 3) (.int .i64 (k2 : Int)) (.pointer (some ⟨B2, k2, none⟩)) (.string s2) undef) W) := by
  intro W l k1 b1 b2 k2 B1 B2 s2 hl hX h1 x1 z2
  subst hl
  have hH : True := trivial
  refine (hGG.out _ _ _ _).1 ?_
  refine rd2 4 15 (fun K hK => ?_) (fun K hK => ?_)
  · obtain ⟨s1, hz, hc⟩ := x1.get (by decide) (show k1 < lisT.length by show k1 < 2; omega)
    go_simp
    refine hK.out _ _ trivial fun _ => ?_
    refine tk 14 (v := .agg #[.string s1, .bool b1, .bool b2, .int .i64 0, .string s2]) ?_
    exact (hGG.out _ _ _ _).2 (L4_12_11.out _ _ _ _ _ _ _ _ _ _ (by kernel_rfl) hX hz z2)
  · go_simp
    refine hK.out _ _ trivial fun _ => ?_
    exact (hGG.out _ _ _ _).2 (L4_123_01.out _ _ _ _ _ _ _ _ _ _ (by kernel_rfl) (hX.alloc _) h1 (x1.alloc _) hX.new z2)
 have L4_12_10 : Hid (∀ (W : World) (l : Array Bool) (k1 : Nat) (b1 : Bool) (b2 : Bool) (k2 : Nat) (B1 : Nat) (B2 : Nat) (s1 : ByteArray), l = (lB [0, 1, 2, 3, 4, 5, 6, 7, 8, 9, 10, 11, 12]) → LX w g a n cap W → (k2 : Int) < 3 → TX lisN g W B2 → s1.size ≤ 6 → G 4 l (lF g w.heap.size undef (.slice (some ⟨B1, 0, none⟩) 2 2) (.int .i64 (k1 : Int)) (.pointer (some ⟨B1, k1, none⟩)) (.string s1) (.bool b1) (.bool b2) (.slice (some ⟨B2, 0, none⟩) 3 3) (.int .i64 (k2 : Int)) (.pointer (some ⟨B2, k2, none⟩)) undef undef) W) := by
  intro W l k1 b1 b2 k2 B1 B2 s1 hl hX h2 x2 z1
  subst hl
  have hH : True := trivial
  refine (hGG.out _ _ _ _).1 ?_
  refine rd2 13 15 (fun K hK => ?_) (fun K hK => ?_)
  · obtain ⟨s2, hz, hc⟩ := x2.get (by decide) (show k2 < lisN.length by show k2 < 3; omega)
    go_simp
    refine hK.out _ _ trivial fun _ => ?_
    refine tk 14 (v := .agg #[.string s1, .bool b1, .bool b2, .int .i64 0, .string s2]) ?_
    exact (hGG.out _ _ _ _).2 (L4_12_11.out _ _ _ _ _ _ _ _ _ _ (by kernel_rfl) hX z1 hz)
  · go_simp
    refine hK.out _ _ trivial fun _ => ?_
    exact (hGG.out _ _ _ _).2 (L4_123_10.out _ _ _ _ _ _ _ _ _ _ (by kernel_rfl) (hX.alloc _) h2 (x2.alloc _) hX.new z1)
 have L3_123_10 : Hid (∀ (W : World) (l : Array Bool) (k1 : Nat) (b1 : Bool) (b2 : Bool) (B1 : Nat) (B2 : Nat) (EL : Nat) (s1 : ByteArray), l = (lB [0, 1, 2, 3, 4, 5, 6, 7, 8, 9, 10, 15]) → LX w g a n cap W → TX lisN g W B2 → EX w W EL → s1.size ≤ 6 → G 5 l (lF g w.heap.size (pB EL) (.slice (some ⟨B1, 0, none⟩) 2 2) (.int .i64 (k1 : Int)) (.pointer (some ⟨B1, k1, none⟩)) (.string s1) (.bool b1) (.bool b2) (.slice (some ⟨B2, 0, none⟩) 3 3) undef undef undef undef) W) := by
  intro W l k1 b1 b2 B1 B2 EL s1 hl hX x2 xE z1
  subst hl
  have hH : True := trivial
  refine (hGG.out _ _ _ _).1 ?_
  refine rd1 11 (fun K hK => ?_)
  · go_simp
    refine (below_any hX.hR 3 (by omega) (by omega)).mono ?_
    rintro e u ⟨v, rfl, v0, v1, r, q⟩
    obtain ⟨k2, rfl⟩ := Int.eq_ofNat_of_zero_le v0
    refine hK.out _ _ trivial fun _ => ?_
    refine tk 12 (v := .pointer (some ⟨B2, k2, none⟩)) ?_
    exact (hGG.out _ _ _ _).2 (L4_123_10.out _ _ _ _ _ _ _ _ _ _ (by kernel_rfl) (hX.grow hlt r q) v1 (x2.grow q) (xE.grow hlt q) z1)
 clear L4_123_10 L4_123_01 L4_12_11
 have L2_123_10 : Hid (∀ (W : World) (l : Array Bool) (k1 : Nat) (b1 : Bool) (B1 : Nat) (B2 : Nat) (EL : Nat) (s1 : ByteArray), l = (lB [0, 1, 2, 3, 4, 5, 6, 7, 9, 10, 15]) → LX w g a n cap W → TX lisN g W B2 → EX w W EL → s1.size ≤ 6 → G 6 l (lF g w.heap.size (pB EL) (.slice (some ⟨B1, 0, none⟩) 2 2) (.int .i64 (k1 : Int)) (.pointer (some ⟨B1, k1, none⟩)) (.string s1) (.bool b1) undef (.slice (some ⟨B2, 0, none⟩) 3 3) undef undef undef undef) W) := by
  intro W l k1 b1 B1 B2 EL s1 hl hX x2 xE z1
  subst hl
  have hH : True := trivial
  refine (hGG.out _ _ _ _).1 ?_
  refine rd1 8 (fun K hK => ?_)
  · go_simp
    refine (once_any hX.hR 3 (by omega) (by omega)).mono ?_
    rintro e u ⟨b2, rfl, r, q⟩
    refine hK.out _ _ trivial fun _ => ?_
    exact (hGG.out _ _ _ _).2 (L3_123_10.out _ _ _ _ _ _ _ _ _ (by kernel_rfl) (hX.grow hlt r q) (x2.grow q) (xE.grow hlt q) z1)
 have L4_2_01 : Hid (∀ (W : World) (l : Array Bool) (k1 : Nat) (b1 : Bool) (b2 : Bool) (k2 : Nat) (B2 : Nat) (s2 : ByteArray), l = (lB [1, 2, 5, 6, 7, 8, 9, 10, 11, 12, 13]) → LX w g a n cap W → (k1 : Int) < 2 → s2.size ≤ 6 → G 6 l (lF g w.heap.size undef undef (.int .i64 (k1 : Int)) undef undef (.bool b1) (.bool b2) (.slice (some ⟨B2, 0, none⟩) 3 3) (.int .i64 (k2 : Int)) (.pointer (some ⟨B2, k2, none⟩)) (.string s2) undef) W) := by
  intro W l k1 b1 b2 k2 B2 s2 hl hX h1 z2
  subst hl
  have hH : True := trivial
  refine (hGG.out _ _ _ _).1 ?_
  refine rd2 0 15 (fun K hK => ?_) (fun K hK => ?_)
  · go_simp
    refine hK.out _ _ trivial fun _ => ?_
    refine tk 3 (v := .pointer (some ⟨W.heap.size, k1, none⟩)) ?_
    exact (hGG.out _ _ _ _).2 (L4_12_01.out _ _ _ _ _ _ _ _ _ (by kernel_rfl) (hX.alloc _) h1 (hX.tab hlt _) z2)
  · go_simp
    refine hK.out _ _ trivial fun _ => ?_
    exact (hGG.out _ _ _ _).2 (L4_23_01.out _ _ _ _ _ _ _ _ _ (by kernel_rfl) (hX.alloc _) h1 hX.new z2)
 have L4_1_10 : Hid (∀ (W : World) (l : Array Bool) (k1 : Nat) (b1 : Bool) (b2 : Bool) (k2 : Nat) (B1 : Nat) (s1 : ByteArray), l = (lB [0, 1, 2, 3, 4, 5, 6, 7, 8, 10, 11]) → LX w g a n cap W → (k2 : Int) < 3 → s1.size ≤ 6 → G 6 l (lF g w.heap.size undef (.slice (some ⟨B1, 0, none⟩) 2 2) (.int .i64 (k1 : Int)) (.pointer (some ⟨B1, k1, none⟩)) (.string s1) (.bool b1) (.bool b2) undef (.int .i64 (k2 : Int)) undef undef undef) W) := by
  intro W l k1 b1 b2 k2 B1 s1 hl hX h2 z1
  subst hl
  have hH : True := trivial
  refine (hGG.out _ _ _ _).1 ?_
  refine rd2 9 15 (fun K hK => ?_) (fun K hK => ?_)
  · go_simp
    refine hK.out _ _ trivial fun _ => ?_
    refine tk 12 (v := .pointer (some ⟨W.heap.size, k2, none⟩)) ?_
    exact (hGG.out _ _ _ _).2 (L4_12_10.out _ _ _ _ _ _ _ _ _ (by kernel_rfl) (hX.alloc _) h2 (hX.tab hlt _) z1)
  · go_simp
    refine hK.out _ _ trivial fun _ => ?_
    exact (hGG.out _ _ _ _).2 (L4_13_10.out _ _ _ _ _ _ _ _ _ (by kernel_rfl) (hX.alloc _) h2 hX.new z1)
 have L3_12_10 : Hid (∀ (W : World) (l : Array Bool) (k1 : Nat) (b1 : Bool) (b2 : Bool) (B1 : Nat) (B2 : Nat) (s1 : ByteArray), l = (lB [0, 1, 2, 3, 4, 5, 6, 7, 8, 9, 10]) → LX w g a n cap W → TX lisN g W B2 → s1.size ≤ 6 → G 6 l (lF g w.heap.size undef (.slice (some ⟨B1, 0, none⟩) 2 2) (.int .i64 (k1 : Int)) (.pointer (some ⟨B1, k1, none⟩)) (.string s1) (.bool b1) (.bool b2) (.slice (some ⟨B2, 0, none⟩) 3 3) undef undef undef undef) W) := by
  intro W l k1 b1 b2 B1 B2 s1 hl hX x2 z1
  subst hl
  have hH : True := trivial
  refine (hGG.out _ _ _ _).1 ?_
  refine rd2 11 15 (fun K hK => ?_) (fun K hK => ?_)
  · go_simp
    refine (below_any hX.hR 3 (by omega) (by omega)).mono ?_
    rintro e u ⟨v, rfl, v0, v1, r, q⟩
    obtain ⟨k2, rfl⟩ := Int.eq_ofNat_of_zero_le v0
    refine hK.out _ _ trivial fun _ => ?_
    refine tk 12 (v := .pointer (some ⟨B2, k2, none⟩)) ?_
    exact (hGG.out _ _ _ _).2 (L4_12_10.out _ _ _ _ _ _ _ _ _ (by kernel_rfl) (hX.grow hlt r q) v1 (x2.grow q) z1)
  · go_simp
    refine hK.out _ _ trivial fun _ => ?_
    exact (hGG.out _ _ _ _).2 (L3_123_10.out _ _ _ _ _ _ _ _ _ (by kernel_rfl) (hX.alloc _) (x2.alloc _) hX.new z1)
 have L3_123_00 : Hid (∀ (W : World) (l : Array Bool) (k1 : Nat) (b1 : Bool) (b2 : Bool) (B1 : Nat) (B2 : Nat) (EL : Nat), l = (lB [0, 1, 2, 3, 5, 6, 7, 8, 9, 10, 15]) → LX w g a n cap W → (k1 : Int) < 2 → TX lisT g W B1 → TX lisN g W B2 → EX w W EL → G 6 l (lF g w.heap.size (pB EL) (.slice (some ⟨B1, 0, none⟩) 2 2) (.int .i64 (k1 : Int)) (.pointer (some ⟨B1, k1, none⟩)) undef (.bool b1) (.bool b2) (.slice (some ⟨B2, 0, none⟩) 3 3) undef undef undef undef) W) := by
  intro W l k1 b1 b2 B1 B2 EL hl hX h1 x1 x2 xE
  subst hl
  have hH : True := trivial
  refine (hGG.out _ _ _ _).1 ?_
  refine rd2 4 11 (fun K hK => ?_) (fun K hK => ?_)
  · obtain ⟨s1, hz, hc⟩ := x1.get (by decide) (show k1 < lisT.length by show k1 < 2; omega)
    go_simp
    refine hK.out _ _ trivial fun _ => ?_
    exact (hGG.out _ _ _ _).2 (L3_123_10.out _ _ _ _ _ _ _ _ _ (by kernel_rfl) hX x2 xE hz)
  · go_simp
    refine (below_any hX.hR 3 (by omega) (by omega)).mono ?_
    rintro e u ⟨v, rfl, v0, v1, r, q⟩
    obtain ⟨k2, rfl⟩ := Int.eq_ofNat_of_zero_le v0
    refine hK.out _ _ trivial fun _ => ?_
    refine tk 12 (v := .pointer (some ⟨B2, k2, none⟩)) ?_
    exact (hGG.out _ _ _ _).2 (L4_123_00.out _ _ _ _ _ _ _ _ _ (by kernel_rfl) (hX.grow hlt r q) h1 v1 (x1.grow q) (x2.grow q) (xE.grow hlt q))
 have L4_13_00 : Hid (∀ (W : World) (l : Array Bool) (k1 : Nat) (b1 : Bool) (b2 : Bool) (k2 : Nat) (B1 : Nat) (EL : Nat), l = (lB [0, 1, 2, 3, 5, 6, 7, 8, 10, 11, 15]) → LX w g a n cap W → (k1 : Int) < 2 → (k2 : Int) < 3 → TX lisT g W B1 → EX w W EL → G 6 l (lF g w.heap.size (pB EL) (.slice (some ⟨B1, 0, none⟩) 2 2) (.int .i64 (k1 : Int)) (.pointer (some ⟨B1, k1, none⟩)) undef (.bool b1) (.bool b2) undef (.int .i64 (k2 : Int)) undef undef undef) W) := by
  intro W l k1 b1 b2 k2 B1 EL hl hX h1 h2 x1 xE
  subst hl
  have hH : True := trivial
  refine (hGG.out _ _ _ _).1 ?_
  refine rd2 4 9 (fun K hK => ?_) (fun K hK => ?_)
  · obtain ⟨s1, hz, hc⟩ := x1.get (by decide) (show k1 < lisT.length by show k1 < 2; omega)
    go_simp
    refine hK.out _ _ trivial fun _ => ?_
    exact (hGG.out _ _ _ _).2 (L4_13_10.out _ _ _ _ _ _ _ _ _ (by kernel_rfl) hX h2 xE hz)
  · go_simp
    refine hK.out _ _ trivial fun _ => ?_
    refine tk 12 (v := .pointer (some ⟨W.heap.size, k2, none⟩)) ?_
    exact (hGG.out _ _ _ _).2 (L4_123_00.out _ _ _ _ _ _ _ _ _ (by kernel_rfl) (hX.alloc _) h1 h2 (x1.alloc _) (hX.tab hlt _) (xE.alloc _))
 have L4_23_00 : Hid (∀ (W : World) (l : Array Bool) (k1 : Nat) (b1 : Bool) (b2 : Bool) (k2 : Nat) (B2 : Nat) (EL : Nat), l = (lB [1, 2, 5, 6, 7, 8, 9, 10, 11, 12, 15]) → LX w g a n cap W → (k1 : Int) < 2 → (k2 : Int) < 3 → TX lisN g W B2 → EX w W EL → G 6 l (lF g w.heap.size (pB EL) undef (.int .i64 (k1 : Int)) undef undef (.bool b1) (.bool b2) (.slice (some ⟨B2, 0, none⟩) 3 3) (.int .i64 (k2 : Int)) (.pointer (some ⟨B2, k2, none⟩)) undef undef) W) := by
  intro W l k1 b1 b2 k2 B2 EL hl hX h1 h2 x2 xE
  subst hl
  have hH : True := trivial
  refine (hGG.out _ _ _ _).1 ?_
  refine rd2 0 13 (fun K hK => ?_) (fun K hK => ?_)
  · go_simp
    refine hK.out _ _ trivial fun _ => ?_
    refine tk 3 (v := .pointer (some ⟨W.heap.size, k1, none⟩)) ?_
    exact (hGG.out _ _ _ _).2 (L4_123_00.out _ _ _ _ _ _ _ _ _ (by kernel_rfl) (hX.alloc _) h1 h2 (hX.tab hlt _) (x2.alloc _) (xE.alloc _))
  · obtain ⟨s2, hz, hc⟩ := x2.get (by decide) (show k2 < lisN.length by show k2 < 3; omega)
    go_simp
    refine hK.out _ _ trivial fun _ => ?_
    exact (hGG.out _ _ _ _).2 (L4_23_01.out _ _ _ _ _ _ _ _ _ (by kernel_rfl) hX h1 xE hz)
 have L4_12_00 : Hid (∀ (W : World) (l : Array Bool) (k1 : Nat) (b1 : Bool) (b2 : Bool) (k2 : Nat) (B1 : Nat) (B2 : Nat), l = (lB [0, 1, 2, 3, 5, 6, 7, 8, 9, 10, 11, 12]) → LX w g a n cap W → (k1 : Int) < 2 → (k2 : Int) < 3 → TX lisT g W B1 → TX lisN g W B2 → G 5 l (lF g w.heap.size undef (.slice (some ⟨B1, 0, none⟩) 2 2) (.int .i64 (k1 : Int)) (.pointer (some ⟨B1, k1, none⟩)) undef (.bool b1) (.bool b2) (.slice (some ⟨B2, 0, none⟩) 3 3) (.int .i64 (k2 : Int)) (.pointer (some ⟨B2, k2, none⟩)) undef undef) W) := by
  intro W l k1 b1 b2 k2 B1 B2 hl hX h1 h2 x1 x2
  subst hl
  have hH : True := trivial
  refine (hGG.out _ _ _ _).1 ?_
  refine rd3 4 13 15 (fun K hK => ?_) (fun K hK => ?_) (fun K hK => ?_)
  · obtain ⟨s1, hz, hc⟩ := x1.get (by decide) (show k1 < lisT.length by show k1 < 2; omega)
    go_simp
    refine hK.out _ _ trivial fun _ => ?_
    exact (hGG.out _ _ _ _).2 (L4_12_10.out _ _ _ _ _ _ _ _ _ (by kernel_rfl) hX h2 x2 hz)
  · obtain ⟨s2, hz, hc⟩ := x2.get (by decide) (show k2 < lisN.length by show k2 < 3; omega)
    go_simp
    refine hK.out _ _ trivial fun _ => ?_
    exact (hGG.out _ _ _ _).2 (L4_12_01.out _ _ _ _ _ _ _ _ _ (by kernel_rfl) hX h1 x1 hz)
  · go_simp
    refine hK.out _ _ trivial fun _ => ?_
    exact (hGG.out _ _ _ _).2 (L4_123_00.out _ _ _ _ _ _ _ _ _ (by kernel_rfl) (hX.alloc _) h1 h2 (x1.alloc _) (x2.alloc _) hX.new)
 have L3_13_10 : Hid (∀ (W : World) (l : Array Bool) (k1 : Nat) (b1 : Bool) (b2 : Bool) (B1 : Nat) (EL : Nat) (s1 : ByteArray), l = (lB [0, 1, 2, 3, 4, 5, 6, 7, 8, 10, 15]) → LX w g a n cap W → EX w W EL → s1.size ≤ 6 → G 6 l (lF g w.heap.size (pB EL) (.slice (some ⟨B1, 0, none⟩) 2 2) (.int .i64 (k1 : Int)) (.pointer (some ⟨B1, k1, none⟩)) (.string s1) (.bool b1) (.bool b2) undef undef undef undef undef) W) := by
  intro W l k1 b1 b2 B1 EL s1 hl hX xE z1
  subst hl
  have hH : True := trivial
  refine (hGG.out _ _ _ _).1 ?_
  refine rd2 9 11 (fun K hK => ?_) (fun K hK => ?_)
  · go_simp
    refine hK.out _ _ trivial fun _ => ?_
    exact (hGG.out _ _ _ _).2 (L3_123_10.out _ _ _ _ _ _ _ _ _ (by kernel_rfl) (hX.alloc _) (hX.tab hlt _) (xE.alloc _) z1)
  · go_simp
    refine (below_any hX.hR 3 (by omega) (by omega)).mono ?_
    rintro e u ⟨v, rfl, v0, v1, r, q⟩
    obtain ⟨k2, rfl⟩ := Int.eq_ofNat_of_zero_le v0
    refine hK.out _ _ trivial fun _ => ?_
    exact (hGG.out _ _ _ _).2 (L4_13_10.out _ _ _ _ _ _ _ _ _ (by kernel_rfl) (hX.grow hlt r q) v1 (xE.grow hlt q) z1)
 clear L4_13_10 L4_123_00 L4_23_01 L4_12_01 L4_12_10 L3_123_10
 have L4_3_00 : Hid (∀ (W : World) (l : Array Bool) (k1 : Nat) (b1 : Bool) (b2 : Bool) (k2 : Nat) (EL : Nat), l = (lB [1, 2, 5, 6, 7, 8, 10, 11, 15]) → LX w g a n cap W → (k1 : Int) < 2 → (k2 : Int) < 3 → EX w W EL → G 8 l (lF g w.heap.size (pB EL) undef (.int .i64 (k1 : Int)) undef undef (.bool b1) (.bool b2) undef (.int .i64 (k2 : Int)) undef undef undef) W) := by
  intro W l k1 b1 b2 k2 EL hl hX h1 h2 xE
  subst hl
  have hH : True := trivial
  refine (hGG.out _ _ _ _).1 ?_
  refine rd2 0 9 (fun K hK => ?_) (fun K hK => ?_)
  · go_simp
    refine hK.out _ _ trivial fun _ => ?_
    refine tk 3 (v := .pointer (some ⟨W.heap.size, k1, none⟩)) ?_
    exact (hGG.out _ _ _ _).2 (L4_13_00.out _ _ _ _ _ _ _ _ (by kernel_rfl) (hX.alloc _) h1 h2 (hX.tab hlt _) (xE.alloc _))
  · go_simp
    refine hK.out _ _ trivial fun _ => ?_
    refine tk 12 (v := .pointer (some ⟨W.heap.size, k2, none⟩)) ?_
    exact (hGG.out _ _ _ _).2 (L4_23_00.out _ _ _ _ _ _ _ _ (by kernel_rfl) (hX.alloc _) h1 h2 (hX.tab hlt _) (xE.alloc _))
 have L1_123_10 : Hid (∀ (W : World) (l : Array Bool) (k1 : Nat) (B1 : Nat) (B2 : Nat) (EL : Nat) (s1 : ByteArray), l = (lB [0, 1, 2, 3, 4, 5, 7, 9, 10, 15]) → LX w g a n cap W → TX lisN g W B2 → EX w W EL → s1.size ≤ 6 → G 7 l (lF g w.heap.size (pB EL) (.slice (some ⟨B1, 0, none⟩) 2 2) (.int .i64 (k1 : Int)) (.pointer (some ⟨B1, k1, none⟩)) (.string s1) undef undef (.slice (some ⟨B2, 0, none⟩) 3 3) undef undef undef undef) W) := by
  intro W l k1 B1 B2 EL s1 hl hX x2 xE z1
  subst hl
  have hH : True := trivial
  refine (hGG.out _ _ _ _).1 ?_
  refine rd1 6 (fun K hK => ?_)
  · go_simp
    refine (once_any hX.hR 2 (by omega) (by omega)).mono ?_
    rintro e u ⟨b1, rfl, r, q⟩
    refine hK.out _ _ trivial fun _ => ?_
    exact (hGG.out _ _ _ _).2 (L2_123_10.out _ _ _ _ _ _ _ _ (by kernel_rfl) (hX.grow hlt r q) (x2.grow q) (xE.grow hlt q) z1)
 have L3_1_10 : Hid (∀ (W : World) (l : Array Bool) (k1 : Nat) (b1 : Bool) (b2 : Bool) (B1 : Nat) (s1 : ByteArray), l = (lB [0, 1, 2, 3, 4, 5, 6, 7, 8, 10]) → LX w g a n cap W → s1.size ≤ 6 → G 7 l (lF g w.heap.size undef (.slice (some ⟨B1, 0, none⟩) 2 2) (.int .i64 (k1 : Int)) (.pointer (some ⟨B1, k1, none⟩)) (.string s1) (.bool b1) (.bool b2) undef undef undef undef undef) W) := by
  intro W l k1 b1 b2 B1 s1 hl hX z1
  subst hl
  have hH : True := trivial
  refine (hGG.out _ _ _ _).1 ?_
  refine rd3 9 11 15 (fun K hK => ?_) (fun K hK => ?_) (fun K hK => ?_)
  · go_simp
    refine hK.out _ _ trivial fun _ => ?_
    exact (hGG.out _ _ _ _).2 (L3_12_10.out _ _ _ _ _ _ _ _ (by kernel_rfl) (hX.alloc _) (hX.tab hlt _) z1)
  · go_simp
    refine (below_any hX.hR 3 (by omega) (by omega)).mono ?_
    rintro e u ⟨v, rfl, v0, v1, r, q⟩
    obtain ⟨k2, rfl⟩ := Int.eq_ofNat_of_zero_le v0
    refine hK.out _ _ trivial fun _ => ?_
    exact (hGG.out _ _ _ _).2 (L4_1_10.out _ _ _ _ _ _ _ _ (by kernel_rfl) (hX.grow hlt r q) v1 z1)
  · go_simp
    refine hK.out _ _ trivial fun _ => ?_
    exact (hGG.out _ _ _ _).2 (L3_13_10.out _ _ _ _ _ _ _ _ (by kernel_rfl) (hX.alloc _) hX.new z1)
 have L3_13_00 : Hid (∀ (W : World) (l : Array Bool) (k1 : Nat) (b1 : Bool) (b2 : Bool) (B1 : Nat) (EL : Nat), l = (lB [0, 1, 2, 3, 5, 6, 7, 8, 10, 15]) → LX w g a n cap W → (k1 : Int) < 2 → TX lisT g W B1 → EX w W EL → G 7 l (lF g w.heap.size (pB EL) (.slice (some ⟨B1, 0, none⟩) 2 2) (.int .i64 (k1 : Int)) (.pointer (some ⟨B1, k1, none⟩)) undef (.bool b1) (.bool b2) undef undef undef undef undef) W) := by
  intro W l k1 b1 b2 B1 EL hl hX h1 x1 xE
  subst hl
  have hH : True := trivial
  refine (hGG.out _ _ _ _).1 ?_
  refine rd3 4 9 11 (fun K hK => ?_) (fun K hK => ?_) (fun K hK => ?_)
  · obtain ⟨s1, hz, hc⟩ := x1.get (by decide) (show k1 < lisT.length by show k1 < 2; omega)
    go_simp
    refine hK.out _ _ trivial fun _ => ?_
    exact (hGG.out _ _ _ _).2 (L3_13_10.out _ _ _ _ _ _ _ _ (by kernel_rfl) hX xE hz)
  · go_simp
    refine hK.out _ _ trivial fun _ => ?_
    exact (hGG.out _ _ _ _).2 (L3_123_00.out _ _ _ _ _ _ _ _ (by kernel_rfl) (hX.alloc _) h1 (x1.alloc _) (hX.tab hlt _) (xE.alloc _))
  · go_simp
    refine (below_any hX.hR 3 (by omega) (by omega)).mono ?_
    rintro e u ⟨v, rfl, v0, v1, r, q⟩
    obtain ⟨k2, rfl⟩ := Int.eq_ofNat_of_zero_le v0
    refine hK.out _ _ trivial fun _ => ?_
    exact (hGG.out _ _ _ _).2 (L4_13_00.out _ _ _ _ _ _ _ _ (by kernel_rfl) (hX.grow hlt r q) h1 v1 (x1.grow q) (xE.grow hlt q))
 have L2_13_10 : Hid (∀ (W : World) (l : Array Bool) (k1 : Nat) (b1 : Bool) (B1 : Nat) (EL : Nat) (s1 : ByteArray), l = (lB [0, 1, 2, 3, 4, 5, 6, 7, 10, 15]) → LX w g a n cap W → EX w W EL → s1.size ≤ 6 → G 7 l (lF g w.heap.size (pB EL) (.slice (some ⟨B1, 0, none⟩) 2 2) (.int .i64 (k1 : Int)) (.pointer (some ⟨B1, k1, none⟩)) (.string s1) (.bool b1) undef undef undef undef undef undef) W) := by
  intro W l k1 b1 B1 EL s1 hl hX xE z1
  subst hl
  have hH : True := trivial
  refine (hGG.out _ _ _ _).1 ?_
  refine rd2 8 9 (fun K hK => ?_) (fun K hK => ?_)
  · go_simp
    refine (once_any hX.hR 3 (by omega) (by omega)).mono ?_
    rintro e u ⟨b2, rfl, r, q⟩
    refine hK.out _ _ trivial fun _ => ?_
    exact (hGG.out _ _ _ _).2 (L3_13_10.out _ _ _ _ _ _ _ _ (by kernel_rfl) (hX.grow hlt r q) (xE.grow hlt q) z1)
  · go_simp
    refine hK.out _ _ trivial fun _ => ?_
    exact (hGG.out _ _ _ _).2 (L2_123_10.out _ _ _ _ _ _ _ _ (by kernel_rfl) (hX.alloc _) (hX.tab hlt _) (xE.alloc _) z1)
 have L2_123_00 : Hid (∀ (W : World) (l : Array Bool) (k1 : Nat) (b1 : Bool) (B1 : Nat) (B2 : Nat) (EL : Nat), l = (lB [0, 1, 2, 3, 5, 6, 7, 9, 10, 15]) → LX w g a n cap W → (k1 : Int) < 2 → TX lisT g W B1 → TX lisN g W B2 → EX w W EL → G 7 l (lF g w.heap.size (pB EL) (.slice (some ⟨B1, 0, none⟩) 2 2) (.int .i64 (k1 : Int)) (.pointer (some ⟨B1, k1, none⟩)) undef (.bool b1) undef (.slice (some ⟨B2, 0, none⟩) 3 3) undef undef undef undef) W) := by
  intro W l k1 b1 B1 B2 EL hl hX h1 x1 x2 xE
  subst hl
  have hH : True := trivial
  refine (hGG.out _ _ _ _).1 ?_
  refine rd2 4 8 (fun K hK => ?_) (fun K hK => ?_)
  · obtain ⟨s1, hz, hc⟩ := x1.get (by decide) (show k1 < lisT.length by show k1 < 2; omega)
    go_simp
    refine hK.out _ _ trivial fun _ => ?_
    exact (hGG.out _ _ _ _).2 (L2_123_10.out _ _ _ _ _ _ _ _ (by kernel_rfl) hX x2 xE hz)
  · go_simp
    refine (once_any hX.hR 3 (by omega) (by omega)).mono ?_
    rintro e u ⟨b2, rfl, r, q⟩
    refine hK.out _ _ trivial fun _ => ?_
    exact (hGG.out _ _ _ _).2 (L3_123_00.out _ _ _ _ _ _ _ _ (by kernel_rfl) (hX.grow hlt r q) h1 (x1.grow q) (x2.grow q) (xE.grow hlt q))
 have L2_12_10 : Hid (∀ (W : World) (l : Array Bool) (k1 : Nat) (b1 : Bool) (B1 : Nat) (B2 : Nat) (s1 : ByteArray), l = (lB [0, 1, 2, 3, 4, 5, 6, 7, 9, 10]) → LX w g a n cap W → TX lisN g W B2 → s1.size ≤ 6 → G 7 l (lF g w.heap.size undef (.slice (some ⟨B1, 0, none⟩) 2 2) (.int .i64 (k1 : Int)) (.pointer (some ⟨B1, k1, none⟩)) (.string s1) (.bool b1) undef (.slice (some ⟨B2, 0, none⟩) 3 3) undef undef undef undef) W) := by
  intro W l k1 b1 B1 B2 s1 hl hX x2 z1
  subst hl
  have hH : True := trivial
  refine (hGG.out _ _ _ _).1 ?_
  refine rd2 8 15 (fun K hK => ?_) (fun K hK => ?_)
  · go_simp
    refine (once_any hX.hR 3 (by omega) (by omega)).mono ?_
    rintro e u ⟨b2, rfl, r, q⟩
    refine hK.out _ _ trivial fun _ => ?_
    exact (hGG.out _ _ _ _).2 (L3_12_10.out _ _ _ _ _ _ _ _ (by kernel_rfl) (hX.grow hlt r q) (x2.grow q) z1)
  · go_simp
    refine hK.out _ _ trivial fun _ => ?_
    exact (hGG.out _ _ _ _).2 (L2_123_10.out _ _ _ _ _ _ _ _ (by kernel_rfl) (hX.alloc _) (x2.alloc _) hX.new z1)
 have L4_2_00 : Hid (∀ (W : World) (l : Array Bool) (k1 : Nat) (b1 : Bool) (b2 : Bool) (k2 : Nat) (B2 : Nat), l = (lB [1, 2, 5, 6, 7, 8, 9, 10, 11, 12]) → LX w g a n cap W → (k1 : Int) < 2 → (k2 : Int) < 3 → TX lisN g W B2 → G 7 l (lF g w.heap.size undef undef (.int .i64 (k1 : Int)) undef undef (.bool b1) (.bool b2) (.slice (some ⟨B2, 0, none⟩) 3 3) (.int .i64 (k2 : Int)) (.pointer (some ⟨B2, k2, none⟩)) undef undef) W) := by
  intro W l k1 b1 b2 k2 B2 hl hX h1 h2 x2
  subst hl
  have hH : True := trivial
  refine (hGG.out _ _ _ _).1 ?_
  refine rd3 0 13 15 (fun K hK => ?_) (fun K hK => ?_) (fun K hK => ?_)
  · go_simp
    refine hK.out _ _ trivial fun _ => ?_
    refine tk 3 (v := .pointer (some ⟨W.heap.size, k1, none⟩)) ?_
    exact (hGG.out _ _ _ _).2 (L4_12_00.out _ _ _ _ _ _ _ _ (by kernel_rfl) (hX.alloc _) h1 h2 (hX.tab hlt _) (x2.alloc _))
  · obtain ⟨s2, hz, hc⟩ := x2.get (by decide) (show k2 < lisN.length by show k2 < 3; omega)
    go_simp
    refine hK.out _ _ trivial fun _ => ?_
    exact (hGG.out _ _ _ _).2 (L4_2_01.out _ _ _ _ _ _ _ _ (by kernel_rfl) hX h1 hz)
  · go_simp
    refine hK.out _ _ trivial fun _ => ?_
    exact (hGG.out _ _ _ _).2 (L4_23_00.out _ _ _ _ _ _ _ _ (by kernel_rfl) (hX.alloc _) h1 h2 (x2.alloc _) hX.new)
 have L4_1_00 : Hid (∀ (W : World) (l : Array Bool) (k1 : Nat) (b1 : Bool) (b2 : Bool) (k2 : Nat) (B1 : Nat), l = (lB [0, 1, 2, 3, 5, 6, 7, 8, 10, 11]) → LX w g a n cap W → (k1 : Int) < 2 → (k2 : Int) < 3 → TX lisT g W B1 → G 7 l (lF g w.heap.size undef (.slice (some ⟨B1, 0, none⟩) 2 2) (.int .i64 (k1 : Int)) (.pointer (some ⟨B1, k1, none⟩)) undef (.bool b1) (.bool b2) undef (.int .i64 (k2 : Int)) undef undef undef) W) := by
  intro W l k1 b1 b2 k2 B1 hl hX h1 h2 x1
  subst hl
  have hH : True := trivial
  refine (hGG.out _ _ _ _).1 ?_
  refine rd3 4 9 15 (fun K hK => ?_) (fun K hK => ?_) (fun K hK => ?_)
  · obtain ⟨s1, hz, hc⟩ := x1.get (by decide) (show k1 < lisT.length by show k1 < 2; omega)
    go_simp
    refine hK.out _ _ trivial fun _ => ?_
    exact (hGG.out _ _ _ _).2 (L4_1_10.out _ _ _ _ _ _ _ _ (by kernel_rfl) hX h2 hz)
  · go_simp
    refine hK.out _ _ trivial fun _ => ?_
    refine tk 12 (v := .pointer (some ⟨W.heap.size, k2, none⟩)) ?_
    exact (hGG.out _ _ _ _).2 (L4_12_00.out _ _ _ _ _ _ _ _ (by kernel_rfl) (hX.alloc _) h1 h2 (x1.alloc _) (hX.tab hlt _))
  · go_simp
    refine hK.out _ _ trivial fun _ => ?_
    exact (hGG.out _ _ _ _).2 (L4_13_00.out _ _ _ _ _ _ _ _ (by kernel_rfl) (hX.alloc _) h1 h2 (x1.alloc _) hX.new)
 have L3_23_00 : Hid (∀ (W : World) (l : Array Bool) (k1 : Nat) (b1 : Bool) (b2 : Bool) (B2 : Nat) (EL : Nat), l = (lB [1, 2, 5, 6, 7, 8, 9, 10, 15]) → LX w g a n cap W → (k1 : Int) < 2 → TX lisN g W B2 → EX w W EL → G 8 l (lF g w.heap.size (pB EL) undef (.int .i64 (k1 : Int)) undef undef (.bool b1) (.bool b2) (.slice (some ⟨B2, 0, none⟩) 3 3) undef undef undef undef) W) := by
  intro W l k1 b1 b2 B2 EL hl hX h1 x2 xE
  subst hl
  have hH : True := trivial
  refine (hGG.out _ _ _ _).1 ?_
  refine rd2 0 11 (fun K hK => ?_) (fun K hK => ?_)
  · go_simp
    refine hK.out _ _ trivial fun _ => ?_
    refine tk 3 (v := .pointer (some ⟨W.heap.size, k1, none⟩)) ?_
    exact (hGG.out _ _ _ _).2 (L3_123_00.out _ _ _ _ _ _ _ _ (by kernel_rfl) (hX.alloc _) h1 (hX.tab hlt _) (x2.alloc _) (xE.alloc _))
  · go_simp
    refine (below_any hX.hR 3 (by omega) (by omega)).mono ?_
    rintro e u ⟨v, rfl, v0, v1, r, q⟩
    obtain ⟨k2, rfl⟩ := Int.eq_ofNat_of_zero_le v0
    refine hK.out _ _ trivial fun _ => ?_
    refine tk 12 (v := .pointer (some ⟨B2, k2, none⟩)) ?_
    exact (hGG.out _ _ _ _).2 (L4_23_00.out _ _ _ _ _ _ _ _ (by kernel_rfl) (hX.grow hlt r q) h1 v1 (x2.grow q) (xE.grow hlt q))
 have L3_12_00 : Hid (∀ (W : World) (l : Array Bool) (k1 : Nat) (b1 : Bool) (b2 : Bool) (B1 : Nat) (B2 : Nat), l = (lB [0, 1, 2, 3, 5, 6, 7, 8, 9, 10]) → LX w g a n cap W → (k1 : Int) < 2 → TX lisT g W B1 → TX lisN g W B2 → G 7 l (lF g w.heap.size undef (.slice (some ⟨B1, 0, none⟩) 2 2) (.int .i64 (k1 : Int)) (.pointer (some ⟨B1, k1, none⟩)) undef (.bool b1) (.bool b2) (.slice (some ⟨B2, 0, none⟩) 3 3) undef undef undef undef) W) := by
  intro W l k1 b1 b2 B1 B2 hl hX h1 x1 x2
  subst hl
  have hH : True := trivial
  refine (hGG.out _ _ _ _).1 ?_
  refine rd3 4 11 15 (fun K hK => ?_) (fun K hK => ?_) (fun K hK => ?_)
  · obtain ⟨s1, hz, hc⟩ := x1.get (by decide) (show k1 < lisT.length by show k1 < 2; omega)
    go_simp
    refine hK.out _ _ trivial fun _ => ?_
    exact (hGG.out _ _ _ _).2 (L3_12_10.out _ _ _ _ _ _ _ _ (by kernel_rfl) hX x2 hz)
  · go_simp
    refine (below_any hX.hR 3 (by omega) (by omega)).mono ?_
    rintro e u ⟨v, rfl, v0, v1, r, q⟩
    obtain ⟨k2, rfl⟩ := Int.eq_ofNat_of_zero_le v0
    refine hK.out _ _ trivial fun _ => ?_
    refine tk 12 (v := .pointer (some ⟨B2, k2, none⟩)) ?_
    exact (hGG.out _ _ _ _).2 (L4_12_00.out _ _ _ _ _ _ _ _ (by kernel_rfl) (hX.grow hlt r q) h1 v1 (x1.grow q) (x2.grow q))
  · go_simp
    refine hK.out _ _ trivial fun _ => ?_
    exact (hGG.out _ _ _ _).2 (L3_123_00.out _ _ _ _ _ _ _ _ (by kernel_rfl) (hX.alloc _) h1 (x1.alloc _) (x2.alloc _) hX.new)
 clear L2_123_10 L4_2_01 L4_1_10 L3_12_10 L3_123_00 L4_13_00 L4_23_00 L4_12_00 L3_13_10
 have L1_13_10 : Hid (∀ (W : World) (l : Array Bool) (k1 : Nat) (B1 : Nat) (EL : Nat) (s1 : ByteArray), l = (lB [0, 1, 2, 3, 4, 5, 7, 10, 15]) → LX w g a n cap W → EX w W EL → s1.size ≤ 6 → G 8 l (lF g w.heap.size (pB EL) (.slice (some ⟨B1, 0, none⟩) 2 2) (.int .i64 (k1 : Int)) (.pointer (some ⟨B1, k1, none⟩)) (.string s1) undef undef undef undef undef undef undef) W) := by
  intro W l k1 B1 EL s1 hl hX xE z1
  subst hl
  have hH : True := trivial
  refine (hGG.out _ _ _ _).1 ?_
  refine rd2 6 9 (fun K hK => ?_) (fun K hK => ?_)
  · go_simp
    refine (once_any hX.hR 2 (by omega) (by omega)).mono ?_
    rintro e u ⟨b1, rfl, r, q⟩
    refine hK.out _ _ trivial fun _ => ?_
    exact (hGG.out _ _ _ _).2 (L2_13_10.out _ _ _ _ _ _ _ (by kernel_rfl) (hX.grow hlt r q) (xE.grow hlt q) z1)
  · go_simp
    refine hK.out _ _ trivial fun _ => ?_
    exact (hGG.out _ _ _ _).2 (L1_123_10.out _ _ _ _ _ _ _ (by kernel_rfl) (hX.alloc _) (hX.tab hlt _) (xE.alloc _) z1)
 have L3_3_00 : Hid (∀ (W : World) (l : Array Bool) (k1 : Nat) (b1 : Bool) (b2 : Bool) (EL : Nat), l = (lB [1, 2, 5, 6, 7, 8, 10, 15]) → LX w g a n cap W → (k1 : Int) < 2 → EX w W EL → G 9 l (lF g w.heap.size (pB EL) undef (.int .i64 (k1 : Int)) undef undef (.bool b1) (.bool b2) undef undef undef undef undef) W) := by
  intro W l k1 b1 b2 EL hl hX h1 xE
  subst hl
  have hH : True := trivial
  refine (hGG.out _ _ _ _).1 ?_
  refine rd3 0 9 11 (fun K hK => ?_) (fun K hK => ?_) (fun K hK => ?_)
  · go_simp
    refine hK.out _ _ trivial fun _ => ?_
    refine tk 3 (v := .pointer (some ⟨W.heap.size, k1, none⟩)) ?_
    exact (hGG.out _ _ _ _).2 (L3_13_00.out _ _ _ _ _ _ _ (by kernel_rfl) (hX.alloc _) h1 (hX.tab hlt _) (xE.alloc _))
  · go_simp
    refine hK.out _ _ trivial fun _ => ?_
    exact (hGG.out _ _ _ _).2 (L3_23_00.out _ _ _ _ _ _ _ (by kernel_rfl) (hX.alloc _) h1 (hX.tab hlt _) (xE.alloc _))
  · go_simp
    refine (below_any hX.hR 3 (by omega) (by omega)).mono ?_
    rintro e u ⟨v, rfl, v0, v1, r, q⟩
    obtain ⟨k2, rfl⟩ := Int.eq_ofNat_of_zero_le v0
    refine hK.out _ _ trivial fun _ => ?_
    exact (hGG.out _ _ _ _).2 (L4_3_00.out _ _ _ _ _ _ _ (by kernel_rfl) (hX.grow hlt r q) h1 v1 (xE.grow hlt q))
 have L4__00 : Hid (∀ (W : World) (l : Array Bool) (k1 : Nat) (b1 : Bool) (b2 : Bool) (k2 : Nat), l = (lB [1, 2, 5, 6, 7, 8, 10, 11]) → LX w g a n cap W → (k1 : Int) < 2 → (k2 : Int) < 3 → G 9 l (lF g w.heap.size undef undef (.int .i64 (k1 : Int)) undef undef (.bool b1) (.bool b2) undef (.int .i64 (k2 : Int)) undef undef undef) W) := by
  intro W l k1 b1 b2 k2 hl hX h1 h2
  subst hl
  have hH : True := trivial
  refine (hGG.out _ _ _ _).1 ?_
  refine rd3 0 9 15 (fun K hK => ?_) (fun K hK => ?_) (fun K hK => ?_)
  · go_simp
    refine hK.out _ _ trivial fun _ => ?_
    refine tk 3 (v := .pointer (some ⟨W.heap.size, k1, none⟩)) ?_
    exact (hGG.out _ _ _ _).2 (L4_1_00.out _ _ _ _ _ _ _ (by kernel_rfl) (hX.alloc _) h1 h2 (hX.tab hlt _))
  · go_simp
    refine hK.out _ _ trivial fun _ => ?_
    refine tk 12 (v := .pointer (some ⟨W.heap.size, k2, none⟩)) ?_
    exact (hGG.out _ _ _ _).2 (L4_2_00.out _ _ _ _ _ _ _ (by kernel_rfl) (hX.alloc _) h1 h2 (hX.tab hlt _))
  · go_simp
    refine hK.out _ _ trivial fun _ => ?_
    exact (hGG.out _ _ _ _).2 (L4_3_00.out _ _ _ _ _ _ _ (by kernel_rfl) (hX.alloc _) h1 h2 hX.new)
 have L3_2_00 : Hid (∀ (W : World) (l : Array Bool) (k1 : Nat) (b1 : Bool) (b2 : Bool) (B2 : Nat), l = (lB [1, 2, 5, 6, 7, 8, 9, 10]) → LX w g a n cap W → (k1 : Int) < 2 → TX lisN g W B2 → G 9 l (lF g w.heap.size undef undef (.int .i64 (k1 : Int)) undef undef (.bool b1) (.bool b2) (.slice (some ⟨B2, 0, none⟩) 3 3) undef undef undef undef) W) := by
  intro W l k1 b1 b2 B2 hl hX h1 x2
  subst hl
  have hH : True := trivial
  refine (hGG.out _ _ _ _).1 ?_
  refine rd3 0 11 15 (fun K hK => ?_) (fun K hK => ?_) (fun K hK => ?_)
  · go_simp
    refine hK.out _ _ trivial fun _ => ?_
    refine tk 3 (v := .pointer (some ⟨W.heap.size, k1, none⟩)) ?_
    exact (hGG.out _ _ _ _).2 (L3_12_00.out _ _ _ _ _ _ _ (by kernel_rfl) (hX.alloc _) h1 (hX.tab hlt _) (x2.alloc _))
  · go_simp
    refine (below_any hX.hR 3 (by omega) (by omega)).mono ?_
    rintro e u ⟨v, rfl, v0, v1, r, q⟩
    obtain ⟨k2, rfl⟩ := Int.eq_ofNat_of_zero_le v0
    refine hK.out _ _ trivial fun _ => ?_
    refine tk 12 (v := .pointer (some ⟨B2, k2, none⟩)) ?_
    exact (hGG.out _ _ _ _).2 (L4_2_00.out _ _ _ _ _ _ _ (by kernel_rfl) (hX.grow hlt r q) h1 v1 (x2.grow q))
  · go_simp
    refine hK.out _ _ trivial fun _ => ?_
    exact (hGG.out _ _ _ _).2 (L3_23_00.out _ _ _ _ _ _ _ (by kernel_rfl) (hX.alloc _) h1 (x2.alloc _) hX.new)
 have L3_1_00 : Hid (∀ (W : World) (l : Array Bool) (k1 : Nat) (b1 : Bool) (b2 : Bool) (B1 : Nat), l = (lB [0, 1, 2, 3, 5, 6, 7, 8, 10]) → LX w g a n cap W → (k1 : Int) < 2 → TX lisT g W B1 → G 8 l (lF g w.heap.size undef (.slice (some ⟨B1, 0, none⟩) 2 2) (.int .i64 (k1 : Int)) (.pointer (some ⟨B1, k1, none⟩)) undef (.bool b1) (.bool b2) undef undef undef undef undef) W) := by
  intro W l k1 b1 b2 B1 hl hX h1 x1
  subst hl
  have hH : True := trivial
  refine (hGG.out _ _ _ _).1 ?_
  refine rd4 4 9 11 15 (fun K hK => ?_) (fun K hK => ?_) (fun K hK => ?_) (fun K hK => ?_)
  · obtain ⟨s1, hz, hc⟩ := x1.get (by decide) (show k1 < lisT.length by show k1 < 2; omega)
    go_simp
    refine hK.out _ _ trivial fun _ => ?_
    exact (hGG.out _ _ _ _).2 (L3_1_10.out _ _ _ _ _ _ _ (by kernel_rfl) hX hz)
  · go_simp
    refine hK.out _ _ trivial fun _ => ?_
    exact (hGG.out _ _ _ _).2 (L3_12_00.out _ _ _ _ _ _ _ (by kernel_rfl) (hX.alloc _) h1 (x1.alloc _) (hX.tab hlt _))
  · go_simp
    refine (below_any hX.hR 3 (by omega) (by omega)).mono ?_
    rintro e u ⟨v, rfl, v0, v1, r, q⟩
    obtain ⟨k2, rfl⟩ := Int.eq_ofNat_of_zero_le v0
    refine hK.out _ _ trivial fun _ => ?_
    exact (hGG.out _ _ _ _).2 (L4_1_00.out _ _ _ _ _ _ _ (by kernel_rfl) (hX.grow hlt r q) h1 v1 (x1.grow q))
  · go_simp
    refine hK.out _ _ trivial fun _ => ?_
    exact (hGG.out _ _ _ _).2 (L3_13_00.out _ _ _ _ _ _ _ (by kernel_rfl) (hX.alloc _) h1 (x1.alloc _) hX.new)
 have L2_1_10 : Hid (∀ (W : World) (l : Array Bool) (k1 : Nat) (b1 : Bool) (B1 : Nat) (s1 : ByteArray), l = (lB [0, 1, 2, 3, 4, 5, 6, 7, 10]) → LX w g a n cap W → s1.size ≤ 6 → G 8 l (lF g w.heap.size undef (.slice (some ⟨B1, 0, none⟩) 2 2) (.int .i64 (k1 : Int)) (.pointer (some ⟨B1, k1, none⟩)) (.string s1) (.bool b1) undef undef undef undef undef undef) W) := by
  intro W l k1 b1 B1 s1 hl hX z1
  subst hl
  have hH : True := trivial
  refine (hGG.out _ _ _ _).1 ?_
  refine rd3 8 9 15 (fun K hK => ?_) (fun K hK => ?_) (fun K hK => ?_)
  · go_simp
    refine (once_any hX.hR 3 (by omega) (by omega)).mono ?_
    rintro e u ⟨b2, rfl, r, q⟩
    refine hK.out _ _ trivial fun _ => ?_
    exact (hGG.out _ _ _ _).2 (L3_1_10.out _ _ _ _ _ _ _ (by kernel_rfl) (hX.grow hlt r q) z1)
  · go_simp
    refine hK.out _ _ trivial fun _ => ?_
    exact (hGG.out _ _ _ _).2 (L2_12_10.out _ _ _ _ _ _ _ (by kernel_rfl) (hX.alloc _) (hX.tab hlt _) z1)
  · go_simp
    refine hK.out _ _ trivial fun _ => ?_
    exact (hGG.out _ _ _ _).2 (L2_13_10.out _ _ _ _ _ _ _ (by kernel_rfl) (hX.alloc _) hX.new z1)
 have L1_123_00 : Hid (∀ (W : World) (l : Array Bool) (k1 : Nat) (B1 : Nat) (B2 : Nat) (EL : Nat), l = (lB [0, 1, 2, 3, 5, 7, 9, 10, 15]) → LX w g a n cap W → (k1 : Int) < 2 → TX lisT g W B1 → TX lisN g W B2 → EX w W EL → G 8 l (lF g w.heap.size (pB EL) (.slice (some ⟨B1, 0, none⟩) 2 2) (.int .i64 (k1 : Int)) (.pointer (some ⟨B1, k1, none⟩)) undef undef undef (.slice (some ⟨B2, 0, none⟩) 3 3) undef undef undef undef) W) := by
  intro W l k1 B1 B2 EL hl hX h1 x1 x2 xE
  subst hl
  have hH : True := trivial
  refine (hGG.out _ _ _ _).1 ?_
  refine rd2 4 6 (fun K hK => ?_) (fun K hK => ?_)
  · obtain ⟨s1, hz, hc⟩ := x1.get (by decide) (show k1 < lisT.length by show k1 < 2; omega)
    go_simp
    refine hK.out _ _ trivial fun _ => ?_
    exact (hGG.out _ _ _ _).2 (L1_123_10.out _ _ _ _ _ _ _ (by kernel_rfl) hX x2 xE hz)
  · go_simp
    refine (once_any hX.hR 2 (by omega) (by omega)).mono ?_
    rintro e u ⟨b1, rfl, r, q⟩
    refine hK.out _ _ trivial fun _ => ?_
    exact (hGG.out _ _ _ _).2 (L2_123_00.out _ _ _ _ _ _ _ (by kernel_rfl) (hX.grow hlt r q) h1 (x1.grow q) (x2.grow q) (xE.grow hlt q))
 have L1_12_10 : Hid (∀ (W : World) (l : Array Bool) (k1 : Nat) (B1 : Nat) (B2 : Nat) (s1 : ByteArray), l = (lB [0, 1, 2, 3, 4, 5, 7, 9, 10]) → LX w g a n cap W → TX lisN g W B2 → s1.size ≤ 6 → G 8 l (lF g w.heap.size undef (.slice (some ⟨B1, 0, none⟩) 2 2) (.int .i64 (k1 : Int)) (.pointer (some ⟨B1, k1, none⟩)) (.string s1) undef undef (.slice (some ⟨B2, 0, none⟩) 3 3) undef undef undef undef) W) := by
  intro W l k1 B1 B2 s1 hl hX x2 z1
  subst hl
  have hH : True := trivial
  refine (hGG.out _ _ _ _).1 ?_
  refine rd2 6 15 (fun K hK => ?_) (fun K hK => ?_)
  · go_simp
    refine (once_any hX.hR 2 (by omega) (by omega)).mono ?_
    rintro e u ⟨b1, rfl, r, q⟩
    refine hK.out _ _ trivial fun _ => ?_
    exact (hGG.out _ _ _ _).2 (L2_12_10.out _ _ _ _ _ _ _ (by kernel_rfl) (hX.grow hlt r q) (x2.grow q) z1)
  · go_simp
    refine hK.out _ _ trivial fun _ => ?_
    exact (hGG.out _ _ _ _).2 (L1_123_10.out _ _ _ _ _ _ _ (by kernel_rfl) (hX.alloc _) (x2.alloc _) hX.new z1)
 have L2_13_00 : Hid (∀ (W : World) (l : Array Bool) (k1 : Nat) (b1 : Bool) (B1 : Nat) (EL : Nat), l = (lB [0, 1, 2, 3, 5, 6, 7, 10, 15]) → LX w g a n cap W → (k1 : Int) < 2 → TX lisT g W B1 → EX w W EL → G 8 l (lF g w.heap.size (pB EL) (.slice (some ⟨B1, 0, none⟩) 2 2) (.int .i64 (k1 : Int)) (.pointer (some ⟨B1, k1, none⟩)) undef (.bool b1) undef undef undef undef undef undef) W) := by
  intro W l k1 b1 B1 EL hl hX h1 x1 xE
  subst hl
  have hH : True := trivial
  refine (hGG.out _ _ _ _).1 ?_
  refine rd3 4 8 9 (fun K hK => ?_) (fun K hK => ?_) (fun K hK => ?_)
  · obtain ⟨s1, hz, hc⟩ := x1.get (by decide) (show k1 < lisT.length by show k1 < 2; omega)
    go_simp
    refine hK.out _ _ trivial fun _ => ?_
    exact (hGG.out _ _ _ _).2 (L2_13_10.out _ _ _ _ _ _ _ (by kernel_rfl) hX xE hz)
  · go_simp
    refine (once_any hX.hR 3 (by omega) (by omega)).mono ?_
    rintro e u ⟨b2, rfl, r, q⟩
    refine hK.out _ _ trivial fun _ => ?_
    exact (hGG.out _ _ _ _).2 (L3_13_00.out _ _ _ _ _ _ _ (by kernel_rfl) (hX.grow hlt r q) h1 (x1.grow q) (xE.grow hlt q))
  · go_simp
    refine hK.out _ _ trivial fun _ => ?_
    exact (hGG.out _ _ _ _).2 (L2_123_00.out _ _ _ _ _ _ _ (by kernel_rfl) (hX.alloc _) h1 (x1.alloc _) (hX.tab hlt _) (xE.alloc _))
 have L2_23_00 : Hid (∀ (W : World) (l : Array Bool) (k1 : Nat) (b1 : Bool) (B2 : Nat) (EL : Nat), l = (lB [1, 2, 5, 6, 7, 9, 10, 15]) → LX w g a n cap W → (k1 : Int) < 2 → TX lisN g W B2 → EX w W EL → G 9 l (lF g w.heap.size (pB EL) undef (.int .i64 (k1 : Int)) undef undef (.bool b1) undef (.slice (some ⟨B2, 0, none⟩) 3 3) undef undef undef undef) W) := by
  intro W l k1 b1 B2 EL hl hX h1 x2 xE
  subst hl
  have hH : True := trivial
  refine (hGG.out _ _ _ _).1 ?_
  refine rd2 0 8 (fun K hK => ?_) (fun K hK => ?_)
  · go_simp
    refine hK.out _ _ trivial fun _ => ?_
    refine tk 3 (v := .pointer (some ⟨W.heap.size, k1, none⟩)) ?_
    exact (hGG.out _ _ _ _).2 (L2_123_00.out _ _ _ _ _ _ _ (by kernel_rfl) (hX.alloc _) h1 (hX.tab hlt _) (x2.alloc _) (xE.alloc _))
  · go_simp
    refine (once_any hX.hR 3 (by omega) (by omega)).mono ?_
    rintro e u ⟨b2, rfl, r, q⟩
    refine hK.out _ _ trivial fun _ => ?_
    exact (hGG.out _ _ _ _).2 (L3_23_00.out _ _ _ _ _ _ _ (by kernel_rfl) (hX.grow hlt r q) h1 (x2.grow q) (xE.grow hlt q))
 have L2_12_00 : Hid (∀ (W : World) (l : Array Bool) (k1 : Nat) (b1 : Bool) (B1 : Nat) (B2 : Nat), l = (lB [0, 1, 2, 3, 5, 6, 7, 9, 10]) → LX w g a n cap W → (k1 : Int) < 2 → TX lisT g W B1 → TX lisN g W B2 → G 8 l (lF g w.heap.size undef (.slice (some ⟨B1, 0, none⟩) 2 2) (.int .i64 (k1 : Int)) (.pointer (some ⟨B1, k1, none⟩)) undef (.bool b1) undef (.slice (some ⟨B2, 0, none⟩) 3 3) undef undef undef undef) W) := by
  intro W l k1 b1 B1 B2 hl hX h1 x1 x2
  subst hl
  have hH : True := trivial
  refine (hGG.out _ _ _ _).1 ?_
  refine rd3 4 8 15 (fun K hK => ?_) (fun K hK => ?_) (fun K hK => ?_)
  · obtain ⟨s1, hz, hc⟩ := x1.get (by decide) (show k1 < lisT.length by show k1 < 2; omega)
    go_simp
    refine hK.out _ _ trivial fun _ => ?_
    exact (hGG.out _ _ _ _).2 (L2_12_10.out _ _ _ _ _ _ _ (by kernel_rfl) hX x2 hz)
  · go_simp
    refine (once_any hX.hR 3 (by omega) (by omega)).mono ?_
    rintro e u ⟨b2, rfl, r, q⟩
    refine hK.out _ _ trivial fun _ => ?_
    exact (hGG.out _ _ _ _).2 (L3_12_00.out _ _ _ _ _ _ _ (by kernel_rfl) (hX.grow hlt r q) h1 (x1.grow q) (x2.grow q))
  · go_simp
    refine hK.out _ _ trivial fun _ => ?_
    exact (hGG.out _ _ _ _).2 (L2_123_00.out _ _ _ _ _ _ _ (by kernel_rfl) (hX.alloc _) h1 (x1.alloc _) (x2.alloc _) hX.new)
 clear L4_3_00 L1_123_10 L3_1_10 L3_13_00 L2_13_10 L2_123_00 L2_12_10 L4_2_00 L4_1_00 L3_23_00 L3_12_00
 have L2_2_00 : Hid (∀ (W : World) (l : Array Bool) (k1 : Nat) (b1 : Bool) (B2 : Nat), l = (lB [1, 2, 5, 6, 7, 9, 10]) → LX w g a n cap W → (k1 : Int) < 2 → TX lisN g W B2 → G 10 l (lF g w.heap.size undef undef (.int .i64 (k1 : Int)) undef undef (.bool b1) undef (.slice (some ⟨B2, 0, none⟩) 3 3) undef undef undef undef) W) := by
  intro W l k1 b1 B2 hl hX h1 x2
  subst hl
  have hH : True := trivial
  refine (hGG.out _ _ _ _).1 ?_
  refine rd3 0 8 15 (fun K hK => ?_) (fun K hK => ?_) (fun K hK => ?_)
  · go_simp
    refine hK.out _ _ trivial fun _ => ?_
    refine tk 3 (v := .pointer (some ⟨W.heap.size, k1, none⟩)) ?_
    exact (hGG.out _ _ _ _).2 (L2_12_00.out _ _ _ _ _ _ (by kernel_rfl) (hX.alloc _) h1 (hX.tab hlt _) (x2.alloc _))
  · go_simp
    refine (once_any hX.hR 3 (by omega) (by omega)).mono ?_
    rintro e u ⟨b2, rfl, r, q⟩
    refine hK.out _ _ trivial fun _ => ?_
    exact (hGG.out _ _ _ _).2 (L3_2_00.out _ _ _ _ _ _ (by kernel_rfl) (hX.grow hlt r q) h1 (x2.grow q))
  · go_simp
    refine hK.out _ _ trivial fun _ => ?_
    exact (hGG.out _ _ _ _).2 (L2_23_00.out _ _ _ _ _ _ (by kernel_rfl) (hX.alloc _) h1 (x2.alloc _) hX.new)
 have L1_23_00 : Hid (∀ (W : World) (l : Array Bool) (k1 : Nat) (B2 : Nat) (EL : Nat), l = (lB [1, 2, 5, 7, 9, 10, 15]) → LX w g a n cap W → (k1 : Int) < 2 → TX lisN g W B2 → EX w W EL → G 10 l (lF g w.heap.size (pB EL) undef (.int .i64 (k1 : Int)) undef undef undef undef (.slice (some ⟨B2, 0, none⟩) 3 3) undef undef undef undef) W) := by
  intro W l k1 B2 EL hl hX h1 x2 xE
  subst hl
  have hH : True := trivial
  refine (hGG.out _ _ _ _).1 ?_
  refine rd2 0 6 (fun K hK => ?_) (fun K hK => ?_)
  · go_simp
    refine hK.out _ _ trivial fun _ => ?_
    refine tk 3 (v := .pointer (some ⟨W.heap.size, k1, none⟩)) ?_
    exact (hGG.out _ _ _ _).2 (L1_123_00.out _ _ _ _ _ _ (by kernel_rfl) (hX.alloc _) h1 (hX.tab hlt _) (x2.alloc _) (xE.alloc _))
  · go_simp
    refine (once_any hX.hR 2 (by omega) (by omega)).mono ?_
    rintro e u ⟨b1, rfl, r, q⟩
    refine hK.out _ _ trivial fun _ => ?_
    exact (hGG.out _ _ _ _).2 (L2_23_00.out _ _ _ _ _ _ (by kernel_rfl) (hX.grow hlt r q) h1 (x2.grow q) (xE.grow hlt q))
 have L2_1_00 : Hid (∀ (W : World) (l : Array Bool) (k1 : Nat) (b1 : Bool) (B1 : Nat), l = (lB [0, 1, 2, 3, 5, 6, 7, 10]) → LX w g a n cap W → (k1 : Int) < 2 → TX lisT g W B1 → G 9 l (lF g w.heap.size undef (.slice (some ⟨B1, 0, none⟩) 2 2) (.int .i64 (k1 : Int)) (.pointer (some ⟨B1, k1, none⟩)) undef (.bool b1) undef undef undef undef undef undef) W) := by
  intro W l k1 b1 B1 hl hX h1 x1
  subst hl
  have hH : True := trivial
  refine (hGG.out _ _ _ _).1 ?_
  refine rd4 4 8 9 15 (fun K hK => ?_) (fun K hK => ?_) (fun K hK => ?_) (fun K hK => ?_)
  · obtain ⟨s1, hz, hc⟩ := x1.get (by decide) (show k1 < lisT.length by show k1 < 2; omega)
    go_simp
    refine hK.out _ _ trivial fun _ => ?_
    exact (hGG.out _ _ _ _).2 (L2_1_10.out _ _ _ _ _ _ (by kernel_rfl) hX hz)
  · go_simp
    refine (once_any hX.hR 3 (by omega) (by omega)).mono ?_
    rintro e u ⟨b2, rfl, r, q⟩
    refine hK.out _ _ trivial fun _ => ?_
    exact (hGG.out _ _ _ _).2 (L3_1_00.out _ _ _ _ _ _ (by kernel_rfl) (hX.grow hlt r q) h1 (x1.grow q))
  · go_simp
    refine hK.out _ _ trivial fun _ => ?_
    exact (hGG.out _ _ _ _).2 (L2_12_00.out _ _ _ _ _ _ (by kernel_rfl) (hX.alloc _) h1 (x1.alloc _) (hX.tab hlt _))
  · go_simp
    refine hK.out _ _ trivial fun _ => ?_
    exact (hGG.out _ _ _ _).2 (L2_13_00.out _ _ _ _ _ _ (by kernel_rfl) (hX.alloc _) h1 (x1.alloc _) hX.new)
 have L1_12_00 : Hid (∀ (W : World) (l : Array Bool) (k1 : Nat) (B1 : Nat) (B2 : Nat), l = (lB [0, 1, 2, 3, 5, 7, 9, 10]) → LX w g a n cap W → (k1 : Int) < 2 → TX lisT g W B1 → TX lisN g W B2 → G 9 l (lF g w.heap.size undef (.slice (some ⟨B1, 0, none⟩) 2 2) (.int .i64 (k1 : Int)) (.pointer (some ⟨B1, k1, none⟩)) undef undef undef (.slice (some ⟨B2, 0, none⟩) 3 3) undef undef undef undef) W) := by
  intro W l k1 B1 B2 hl hX h1 x1 x2
  subst hl
  have hH : True := trivial
  refine (hGG.out _ _ _ _).1 ?_
  refine rd3 4 6 15 (fun K hK => ?_) (fun K hK => ?_) (fun K hK => ?_)
  · obtain ⟨s1, hz, hc⟩ := x1.get (by decide) (show k1 < lisT.length by show k1 < 2; omega)
    go_simp
    refine hK.out _ _ trivial fun _ => ?_
    exact (hGG.out _ _ _ _).2 (L1_12_10.out _ _ _ _ _ _ (by kernel_rfl) hX x2 hz)
  · go_simp
    refine (once_any hX.hR 2 (by omega) (by omega)).mono ?_
    rintro e u ⟨b1, rfl, r, q⟩
    refine hK.out _ _ trivial fun _ => ?_
    exact (hGG.out _ _ _ _).2 (L2_12_00.out _ _ _ _ _ _ (by kernel_rfl) (hX.grow hlt r q) h1 (x1.grow q) (x2.grow q))
  · go_simp
    refine hK.out _ _ trivial fun _ => ?_
    exact (hGG.out _ _ _ _).2 (L1_123_00.out _ _ _ _ _ _ (by kernel_rfl) (hX.alloc _) h1 (x1.alloc _) (x2.alloc _) hX.new)
 have L0_123_00 : Hid (∀ (W : World) (l : Array Bool) (B1 : Nat) (B2 : Nat) (EL : Nat), l = (lB [0, 1, 5, 7, 9, 10, 15]) → LX w g a n cap W → TX lisT g W B1 → TX lisN g W B2 → EX w W EL → G 10 l (lF g w.heap.size (pB EL) (.slice (some ⟨B1, 0, none⟩) 2 2) undef undef undef undef undef (.slice (some ⟨B2, 0, none⟩) 3 3) undef undef undef undef) W) := by
  intro W l B1 B2 EL hl hX x1 x2 xE
  subst hl
  have hH : True := trivial
  refine (hGG.out _ _ _ _).1 ?_
  refine rd1 2 (fun K hK => ?_)
  · go_simp
    refine (below_any hX.hR 2 (by omega) (by omega)).mono ?_
    rintro e u ⟨v, rfl, v0, v1, r, q⟩
    obtain ⟨k1, rfl⟩ := Int.eq_ofNat_of_zero_le v0
    refine hK.out _ _ trivial fun _ => ?_
    refine tk 3 (v := .pointer (some ⟨B1, k1, none⟩)) ?_
    exact (hGG.out _ _ _ _).2 (L1_123_00.out _ _ _ _ _ _ (by kernel_rfl) (hX.grow hlt r q) v1 (x1.grow q) (x2.grow q) (xE.grow hlt q))
 have L2_3_00 : Hid (∀ (W : World) (l : Array Bool) (k1 : Nat) (b1 : Bool) (EL : Nat), l = (lB [1, 2, 5, 6, 7, 10, 15]) → LX w g a n cap W → (k1 : Int) < 2 → EX w W EL → G 10 l (lF g w.heap.size (pB EL) undef (.int .i64 (k1 : Int)) undef undef (.bool b1) undef undef undef undef undef undef) W) := by
  intro W l k1 b1 EL hl hX h1 xE
  subst hl
  have hH : True := trivial
  refine (hGG.out _ _ _ _).1 ?_
  refine rd3 0 8 9 (fun K hK => ?_) (fun K hK => ?_) (fun K hK => ?_)
  · go_simp
    refine hK.out _ _ trivial fun _ => ?_
    refine tk 3 (v := .pointer (some ⟨W.heap.size, k1, none⟩)) ?_
    exact (hGG.out _ _ _ _).2 (L2_13_00.out _ _ _ _ _ _ (by kernel_rfl) (hX.alloc _) h1 (hX.tab hlt _) (xE.alloc _))
  · go_simp
    refine (once_any hX.hR 3 (by omega) (by omega)).mono ?_
    rintro e u ⟨b2, rfl, r, q⟩
    refine hK.out _ _ trivial fun _ => ?_
    exact (hGG.out _ _ _ _).2 (L3_3_00.out _ _ _ _ _ _ (by kernel_rfl) (hX.grow hlt r q) h1 (xE.grow hlt q))
  · go_simp
    refine hK.out _ _ trivial fun _ => ?_
    exact (hGG.out _ _ _ _).2 (L2_23_00.out _ _ _ _ _ _ (by kernel_rfl) (hX.alloc _) h1 (hX.tab hlt _) (xE.alloc _))
 have L3__00 : Hid (∀ (W : World) (l : Array Bool) (k1 : Nat) (b1 : Bool) (b2 : Bool), l = (lB [1, 2, 5, 6, 7, 8, 10]) → LX w g a n cap W → (k1 : Int) < 2 → G 10 l (lF g w.heap.size undef undef (.int .i64 (k1 : Int)) undef undef (.bool b1) (.bool b2) undef undef undef undef undef) W) := by
  intro W l k1 b1 b2 hl hX h1
  subst hl
  have hH : True := trivial
  refine (hGG.out _ _ _ _).1 ?_
  refine rd4 0 9 11 15 (fun K hK => ?_) (fun K hK => ?_) (fun K hK => ?_) (fun K hK => ?_)
  · go_simp
    refine hK.out _ _ trivial fun _ => ?_
    refine tk 3 (v := .pointer (some ⟨W.heap.size, k1, none⟩)) ?_
    exact (hGG.out _ _ _ _).2 (L3_1_00.out _ _ _ _ _ _ (by kernel_rfl) (hX.alloc _) h1 (hX.tab hlt _))
  · go_simp
    refine hK.out _ _ trivial fun _ => ?_
    exact (hGG.out _ _ _ _).2 (L3_2_00.out _ _ _ _ _ _ (by kernel_rfl) (hX.alloc _) h1 (hX.tab hlt _))
  · go_simp
    refine (below_any hX.hR 3 (by omega) (by omega)).mono ?_
    rintro e u ⟨v, rfl, v0, v1, r, q⟩
    obtain ⟨k2, rfl⟩ := Int.eq_ofNat_of_zero_le v0
    refine hK.out _ _ trivial fun _ => ?_
    exact (hGG.out _ _ _ _).2 (L4__00.out _ _ _ _ _ _ (by kernel_rfl) (hX.grow hlt r q) h1 v1)
  · go_simp
    refine hK.out _ _ trivial fun _ => ?_
    exact (hGG.out _ _ _ _).2 (L3_3_00.out _ _ _ _ _ _ (by kernel_rfl) (hX.alloc _) h1 hX.new)
 have L1_13_00 : Hid (∀ (W : World) (l : Array Bool) (k1 : Nat) (B1 : Nat) (EL : Nat), l = (lB [0, 1, 2, 3, 5, 7, 10, 15]) → LX w g a n cap W → (k1 : Int) < 2 → TX lisT g W B1 → EX w W EL → G 9 l (lF g w.heap.size (pB EL) (.slice (some ⟨B1, 0, none⟩) 2 2) (.int .i64 (k1 : Int)) (.pointer (some ⟨B1, k1, none⟩)) undef undef undef undef undef undef undef undef) W) := by
  intro W l k1 B1 EL hl hX h1 x1 xE
  subst hl
  have hH : True := trivial
  refine (hGG.out _ _ _ _).1 ?_
  refine rd3 4 6 9 (fun K hK => ?_) (fun K hK => ?_) (fun K hK => ?_)
  · obtain ⟨s1, hz, hc⟩ := x1.get (by decide) (show k1 < lisT.length by show k1 < 2; omega)
    go_simp
    refine hK.out _ _ trivial fun _ => ?_
    exact (hGG.out _ _ _ _).2 (L1_13_10.out _ _ _ _ _ _ (by kernel_rfl) hX xE hz)
  · go_simp
    refine (once_any hX.hR 2 (by omega) (by omega)).mono ?_
    rintro e u ⟨b1, rfl, r, q⟩
    refine hK.out _ _ trivial fun _ => ?_
    exact (hGG.out _ _ _ _).2 (L2_13_00.out _ _ _ _ _ _ (by kernel_rfl) (hX.grow hlt r q) h1 (x1.grow q) (xE.grow hlt q))
  · go_simp
    refine hK.out _ _ trivial fun _ => ?_
    exact (hGG.out _ _ _ _).2 (L1_123_00.out _ _ _ _ _ _ (by kernel_rfl) (hX.alloc _) h1 (x1.alloc _) (hX.tab hlt _) (xE.alloc _))
 have L1_1_10 : Hid (∀ (W : World) (l : Array Bool) (k1 : Nat) (B1 : Nat) (s1 : ByteArray), l = (lB [0, 1, 2, 3, 4, 5, 7, 10]) → LX w g a n cap W → s1.size ≤ 6 → G 9 l (lF g w.heap.size undef (.slice (some ⟨B1, 0, none⟩) 2 2) (.int .i64 (k1 : Int)) (.pointer (some ⟨B1, k1, none⟩)) (.string s1) undef undef undef undef undef undef undef) W) := by
  intro W l k1 B1 s1 hl hX z1
  subst hl
  have hH : True := trivial
  refine (hGG.out _ _ _ _).1 ?_
  refine rd3 6 9 15 (fun K hK => ?_) (fun K hK => ?_) (fun K hK => ?_)
  · go_simp
    refine (once_any hX.hR 2 (by omega) (by omega)).mono ?_
    rintro e u ⟨b1, rfl, r, q⟩
    refine hK.out _ _ trivial fun _ => ?_
    exact (hGG.out _ _ _ _).2 (L2_1_10.out _ _ _ _ _ _ (by kernel_rfl) (hX.grow hlt r q) z1)
  · go_simp
    refine hK.out _ _ trivial fun _ => ?_
    exact (hGG.out _ _ _ _).2 (L1_12_10.out _ _ _ _ _ _ (by kernel_rfl) (hX.alloc _) (hX.tab hlt _) z1)
  · go_simp
    refine hK.out _ _ trivial fun _ => ?_
    exact (hGG.out _ _ _ _).2 (L1_13_10.out _ _ _ _ _ _ (by kernel_rfl) (hX.alloc _) hX.new z1)
 clear L1_13_10 L3_3_00 L4__00 L3_2_00 L3_1_00 L2_1_10 L1_123_00 L1_12_10 L2_13_00 L2_23_00 L2_12_00
 have L1_1_00 : Hid (∀ (W : World) (l : Array Bool) (k1 : Nat) (B1 : Nat), l = (lB [0, 1, 2, 3, 5, 7, 10]) → LX w g a n cap W → (k1 : Int) < 2 → TX lisT g W B1 → G 10 l (lF g w.heap.size undef (.slice (some ⟨B1, 0, none⟩) 2 2) (.int .i64 (k1 : Int)) (.pointer (some ⟨B1, k1, none⟩)) undef undef undef undef undef undef undef undef) W) := by
  intro W l k1 B1 hl hX h1 x1
  subst hl
  have hH : True := trivial
  refine (hGG.out _ _ _ _).1 ?_
  refine rd4 4 6 9 15 (fun K hK => ?_) (fun K hK => ?_) (fun K hK => ?_) (fun K hK => ?_)
  · obtain ⟨s1, hz, hc⟩ := x1.get (by decide) (show k1 < lisT.length by show k1 < 2; omega)
    go_simp
    refine hK.out _ _ trivial fun _ => ?_
    exact (hGG.out _ _ _ _).2 (L1_1_10.out _ _ _ _ _ (by kernel_rfl) hX hz)
  · go_simp
    refine (once_any hX.hR 2 (by omega) (by omega)).mono ?_
    rintro e u ⟨b1, rfl, r, q⟩
    refine hK.out _ _ trivial fun _ => ?_
    exact (hGG.out _ _ _ _).2 (L2_1_00.out _ _ _ _ _ (by kernel_rfl) (hX.grow hlt r q) h1 (x1.grow q))
  · go_simp
    refine hK.out _ _ trivial fun _ => ?_
    exact (hGG.out _ _ _ _).2 (L1_12_00.out _ _ _ _ _ (by kernel_rfl) (hX.alloc _) h1 (x1.alloc _) (hX.tab hlt _))
  · go_simp
    refine hK.out _ _ trivial fun _ => ?_
    exact (hGG.out _ _ _ _).2 (L1_13_00.out _ _ _ _ _ (by kernel_rfl) (hX.alloc _) h1 (x1.alloc _) hX.new)
 have L1_2_00 : Hid (∀ (W : World) (l : Array Bool) (k1 : Nat) (B2 : Nat), l = (lB [1, 2, 5, 7, 9, 10]) → LX w g a n cap W → (k1 : Int) < 2 → TX lisN g W B2 → G 11 l (lF g w.heap.size undef undef (.int .i64 (k1 : Int)) undef undef undef undef (.slice (some ⟨B2, 0, none⟩) 3 3) undef undef undef undef) W) := by
  intro W l k1 B2 hl hX h1 x2
  subst hl
  have hH : True := trivial
  refine (hGG.out _ _ _ _).1 ?_
  refine rd3 0 6 15 (fun K hK => ?_) (fun K hK => ?_) (fun K hK => ?_)
  · go_simp
    refine hK.out _ _ trivial fun _ => ?_
    refine tk 3 (v := .pointer (some ⟨W.heap.size, k1, none⟩)) ?_
    exact (hGG.out _ _ _ _).2 (L1_12_00.out _ _ _ _ _ (by kernel_rfl) (hX.alloc _) h1 (hX.tab hlt _) (x2.alloc _))
  · go_simp
    refine (once_any hX.hR 2 (by omega) (by omega)).mono ?_
    rintro e u ⟨b1, rfl, r, q⟩
    refine hK.out _ _ trivial fun _ => ?_
    exact (hGG.out _ _ _ _).2 (L2_2_00.out _ _ _ _ _ (by kernel_rfl) (hX.grow hlt r q) h1 (x2.grow q))
  · go_simp
    refine hK.out _ _ trivial fun _ => ?_
    exact (hGG.out _ _ _ _).2 (L1_23_00.out _ _ _ _ _ (by kernel_rfl) (hX.alloc _) h1 (x2.alloc _) hX.new)
 have L2__00 : Hid (∀ (W : World) (l : Array Bool) (k1 : Nat) (b1 : Bool), l = (lB [1, 2, 5, 6, 7, 10]) → LX w g a n cap W → (k1 : Int) < 2 → G 11 l (lF g w.heap.size undef undef (.int .i64 (k1 : Int)) undef undef (.bool b1) undef undef undef undef undef undef) W) := by
  intro W l k1 b1 hl hX h1
  subst hl
  have hH : True := trivial
  refine (hGG.out _ _ _ _).1 ?_
  refine rd4 0 8 9 15 (fun K hK => ?_) (fun K hK => ?_) (fun K hK => ?_) (fun K hK => ?_)
  · go_simp
    refine hK.out _ _ trivial fun _ => ?_
    refine tk 3 (v := .pointer (some ⟨W.heap.size, k1, none⟩)) ?_
    exact (hGG.out _ _ _ _).2 (L2_1_00.out _ _ _ _ _ (by kernel_rfl) (hX.alloc _) h1 (hX.tab hlt _))
  · go_simp
    refine (once_any hX.hR 3 (by omega) (by omega)).mono ?_
    rintro e u ⟨b2, rfl, r, q⟩
    refine hK.out _ _ trivial fun _ => ?_
    exact (hGG.out _ _ _ _).2 (L3__00.out _ _ _ _ _ (by kernel_rfl) (hX.grow hlt r q) h1)
  · go_simp
    refine hK.out _ _ trivial fun _ => ?_
    exact (hGG.out _ _ _ _).2 (L2_2_00.out _ _ _ _ _ (by kernel_rfl) (hX.alloc _) h1 (hX.tab hlt _))
  · go_simp
    refine hK.out _ _ trivial fun _ => ?_
    exact (hGG.out _ _ _ _).2 (L2_3_00.out _ _ _ _ _ (by kernel_rfl) (hX.alloc _) h1 hX.new)
 have L1_3_00 : Hid (∀ (W : World) (l : Array Bool) (k1 : Nat) (EL : Nat), l = (lB [1, 2, 5, 7, 10, 15]) → LX w g a n cap W → (k1 : Int) < 2 → EX w W EL → G 11 l (lF g w.heap.size (pB EL) undef (.int .i64 (k1 : Int)) undef undef undef undef undef undef undef undef undef) W) := by
  intro W l k1 EL hl hX h1 xE
  subst hl
  have hH : True := trivial
  refine (hGG.out _ _ _ _).1 ?_
  refine rd3 0 6 9 (fun K hK => ?_) (fun K hK => ?_) (fun K hK => ?_)
  · go_simp
    refine hK.out _ _ trivial fun _ => ?_
    refine tk 3 (v := .pointer (some ⟨W.heap.size, k1, none⟩)) ?_
    exact (hGG.out _ _ _ _).2 (L1_13_00.out _ _ _ _ _ (by kernel_rfl) (hX.alloc _) h1 (hX.tab hlt _) (xE.alloc _))
  · go_simp
    refine (once_any hX.hR 2 (by omega) (by omega)).mono ?_
    rintro e u ⟨b1, rfl, r, q⟩
    refine hK.out _ _ trivial fun _ => ?_
    exact (hGG.out _ _ _ _).2 (L2_3_00.out _ _ _ _ _ (by kernel_rfl) (hX.grow hlt r q) h1 (xE.grow hlt q))
  · go_simp
    refine hK.out _ _ trivial fun _ => ?_
    exact (hGG.out _ _ _ _).2 (L1_23_00.out _ _ _ _ _ (by kernel_rfl) (hX.alloc _) h1 (hX.tab hlt _) (xE.alloc _))
 have L0_13_00 : Hid (∀ (W : World) (l : Array Bool) (B1 : Nat) (EL : Nat), l = (lB [0, 1, 5, 7, 10, 15]) → LX w g a n cap W → TX lisT g W B1 → EX w W EL → G 11 l (lF g w.heap.size (pB EL) (.slice (some ⟨B1, 0, none⟩) 2 2) undef undef undef undef undef undef undef undef undef undef) W) := by
  intro W l B1 EL hl hX x1 xE
  subst hl
  have hH : True := trivial
  refine (hGG.out _ _ _ _).1 ?_
  refine rd2 2 9 (fun K hK => ?_) (fun K hK => ?_)
  · go_simp
    refine (below_any hX.hR 2 (by omega) (by omega)).mono ?_
    rintro e u ⟨v, rfl, v0, v1, r, q⟩
    obtain ⟨k1, rfl⟩ := Int.eq_ofNat_of_zero_le v0
    refine hK.out _ _ trivial fun _ => ?_
    refine tk 3 (v := .pointer (some ⟨B1, k1, none⟩)) ?_
    exact (hGG.out _ _ _ _).2 (L1_13_00.out _ _ _ _ _ (by kernel_rfl) (hX.grow hlt r q) v1 (x1.grow q) (xE.grow hlt q))
  · go_simp
    refine hK.out _ _ trivial fun _ => ?_
    exact (hGG.out _ _ _ _).2 (L0_123_00.out _ _ _ _ _ (by kernel_rfl) (hX.alloc _) (x1.alloc _) (hX.tab hlt _) (xE.alloc _))
 have L0_23_00 : Hid (∀ (W : World) (l : Array Bool) (B2 : Nat) (EL : Nat), l = (lB [1, 5, 7, 9, 10, 15]) → LX w g a n cap W → TX lisN g W B2 → EX w W EL → G 11 l (lF g w.heap.size (pB EL) undef undef undef undef undef undef (.slice (some ⟨B2, 0, none⟩) 3 3) undef undef undef undef) W) := by
  intro W l B2 EL hl hX x2 xE
  subst hl
  have hH : True := trivial
  refine (hGG.out _ _ _ _).1 ?_
  refine rd2 0 2 (fun K hK => ?_) (fun K hK => ?_)
  · go_simp
    refine hK.out _ _ trivial fun _ => ?_
    exact (hGG.out _ _ _ _).2 (L0_123_00.out _ _ _ _ _ (by kernel_rfl) (hX.alloc _) (hX.tab hlt _) (x2.alloc _) (xE.alloc _))
  · go_simp
    refine (below_any hX.hR 2 (by omega) (by omega)).mono ?_
    rintro e u ⟨v, rfl, v0, v1, r, q⟩
    obtain ⟨k1, rfl⟩ := Int.eq_ofNat_of_zero_le v0
    refine hK.out _ _ trivial fun _ => ?_
    exact (hGG.out _ _ _ _).2 (L1_23_00.out _ _ _ _ _ (by kernel_rfl) (hX.grow hlt r q) v1 (x2.grow q) (xE.grow hlt q))
 have L0_12_00 : Hid (∀ (W : World) (l : Array Bool) (B1 : Nat) (B2 : Nat), l = (lB [0, 1, 5, 7, 9, 10]) → LX w g a n cap W → TX lisT g W B1 → TX lisN g W B2 → G 11 l (lF g w.heap.size undef (.slice (some ⟨B1, 0, none⟩) 2 2) undef undef undef undef undef (.slice (some ⟨B2, 0, none⟩) 3 3) undef undef undef undef) W) := by
  intro W l B1 B2 hl hX x1 x2
  subst hl
  have hH : True := trivial
  refine (hGG.out _ _ _ _).1 ?_
  refine rd2 2 15 (fun K hK => ?_) (fun K hK => ?_)
  · go_simp
    refine (below_any hX.hR 2 (by omega) (by omega)).mono ?_
    rintro e u ⟨v, rfl, v0, v1, r, q⟩
    obtain ⟨k1, rfl⟩ := Int.eq_ofNat_of_zero_le v0
    refine hK.out _ _ trivial fun _ => ?_
    refine tk 3 (v := .pointer (some ⟨B1, k1, none⟩)) ?_
    exact (hGG.out _ _ _ _).2 (L1_12_00.out _ _ _ _ _ (by kernel_rfl) (hX.grow hlt r q) v1 (x1.grow q) (x2.grow q))
  · go_simp
    refine hK.out _ _ trivial fun _ => ?_
    exact (hGG.out _ _ _ _).2 (L0_123_00.out _ _ _ _ _ (by kernel_rfl) (hX.alloc _) (x1.alloc _) (x2.alloc _) hX.new)
 clear L2_2_00 L1_23_00 L2_1_00 L1_12_00 L0_123_00 L2_3_00 L3__00 L1_13_00 L1_1_10
 have L0_3_00 : Hid (∀ (W : World) (l : Array Bool) (EL : Nat), l = (lB [1, 5, 7, 10, 15]) → LX w g a n cap W → EX w W EL → G 12 l (lF g w.heap.size (pB EL) undef undef undef undef undef undef undef undef undef undef undef) W) := by
  intro W l EL hl hX xE
  subst hl
  have hH : True := trivial
  refine (hGG.out _ _ _ _).1 ?_
  refine rd3 0 2 9 (fun K hK => ?_) (fun K hK => ?_) (fun K hK => ?_)
  · go_simp
    refine hK.out _ _ trivial fun _ => ?_
    exact (hGG.out _ _ _ _).2 (L0_13_00.out _ _ _ _ (by kernel_rfl) (hX.alloc _) (hX.tab hlt _) (xE.alloc _))
  · go_simp
    refine (below_any hX.hR 2 (by omega) (by omega)).mono ?_
    rintro e u ⟨v, rfl, v0, v1, r, q⟩
    obtain ⟨k1, rfl⟩ := Int.eq_ofNat_of_zero_le v0
    refine hK.out _ _ trivial fun _ => ?_
    exact (hGG.out _ _ _ _).2 (L1_3_00.out _ _ _ _ (by kernel_rfl) (hX.grow hlt r q) v1 (xE.grow hlt q))
  · go_simp
    refine hK.out _ _ trivial fun _ => ?_
    exact (hGG.out _ _ _ _).2 (L0_23_00.out _ _ _ _ (by kernel_rfl) (hX.alloc _) (hX.tab hlt _) (xE.alloc _))
 have L0_1_00 : Hid (∀ (W : World) (l : Array Bool) (B1 : Nat), l = (lB [0, 1, 5, 7, 10]) → LX w g a n cap W → TX lisT g W B1 → G 12 l (lF g w.heap.size undef (.slice (some ⟨B1, 0, none⟩) 2 2) undef undef undef undef undef undef undef undef undef undef) W) := by
  intro W l B1 hl hX x1
  subst hl
  have hH : True := trivial
  refine (hGG.out _ _ _ _).1 ?_
  refine rd3 2 9 15 (fun K hK => ?_) (fun K hK => ?_) (fun K hK => ?_)
  · go_simp
    refine (below_any hX.hR 2 (by omega) (by omega)).mono ?_
    rintro e u ⟨v, rfl, v0, v1, r, q⟩
    obtain ⟨k1, rfl⟩ := Int.eq_ofNat_of_zero_le v0
    refine hK.out _ _ trivial fun _ => ?_
    refine tk 3 (v := .pointer (some ⟨B1, k1, none⟩)) ?_
    exact (hGG.out _ _ _ _).2 (L1_1_00.out _ _ _ _ (by kernel_rfl) (hX.grow hlt r q) v1 (x1.grow q))
  · go_simp
    refine hK.out _ _ trivial fun _ => ?_
    exact (hGG.out _ _ _ _).2 (L0_12_00.out _ _ _ _ (by kernel_rfl) (hX.alloc _) (x1.alloc _) (hX.tab hlt _))
  · go_simp
    refine hK.out _ _ trivial fun _ => ?_
    exact (hGG.out _ _ _ _).2 (L0_13_00.out _ _ _ _ (by kernel_rfl) (hX.alloc _) (x1.alloc _) hX.new)
 have L1__00 : Hid (∀ (W : World) (l : Array Bool) (k1 : Nat), l = (lB [1, 2, 5, 7, 10]) → LX w g a n cap W → (k1 : Int) < 2 → G 12 l (lF g w.heap.size undef undef (.int .i64 (k1 : Int)) undef undef undef undef undef undef undef undef undef) W) := by
  intro W l k1 hl hX h1
  subst hl
  have hH : True := trivial
  refine (hGG.out _ _ _ _).1 ?_
  refine rd4 0 6 9 15 (fun K hK => ?_) (fun K hK => ?_) (fun K hK => ?_) (fun K hK => ?_)
  · go_simp
    refine hK.out _ _ trivial fun _ => ?_
    refine tk 3 (v := .pointer (some ⟨W.heap.size, k1, none⟩)) ?_
    exact (hGG.out _ _ _ _).2 (L1_1_00.out _ _ _ _ (by kernel_rfl) (hX.alloc _) h1 (hX.tab hlt _))
  · go_simp
    refine (once_any hX.hR 2 (by omega) (by omega)).mono ?_
    rintro e u ⟨b1, rfl, r, q⟩
    refine hK.out _ _ trivial fun _ => ?_
    exact (hGG.out _ _ _ _).2 (L2__00.out _ _ _ _ (by kernel_rfl) (hX.grow hlt r q) h1)
  · go_simp
    refine hK.out _ _ trivial fun _ => ?_
    exact (hGG.out _ _ _ _).2 (L1_2_00.out _ _ _ _ (by kernel_rfl) (hX.alloc _) h1 (hX.tab hlt _))
  · go_simp
    refine hK.out _ _ trivial fun _ => ?_
    exact (hGG.out _ _ _ _).2 (L1_3_00.out _ _ _ _ (by kernel_rfl) (hX.alloc _) h1 hX.new)
 have L0_2_00 : Hid (∀ (W : World) (l : Array Bool) (B2 : Nat), l = (lB [1, 5, 7, 9, 10]) → LX w g a n cap W → TX lisN g W B2 → G 12 l (lF g w.heap.size undef undef undef undef undef undef undef (.slice (some ⟨B2, 0, none⟩) 3 3) undef undef undef undef) W) := by
  intro W l B2 hl hX x2
  subst hl
  have hH : True := trivial
  refine (hGG.out _ _ _ _).1 ?_
  refine rd3 0 2 15 (fun K hK => ?_) (fun K hK => ?_) (fun K hK => ?_)
  · go_simp
    refine hK.out _ _ trivial fun _ => ?_
    exact (hGG.out _ _ _ _).2 (L0_12_00.out _ _ _ _ (by kernel_rfl) (hX.alloc _) (hX.tab hlt _) (x2.alloc _))
  · go_simp
    refine (below_any hX.hR 2 (by omega) (by omega)).mono ?_
    rintro e u ⟨v, rfl, v0, v1, r, q⟩
    obtain ⟨k1, rfl⟩ := Int.eq_ofNat_of_zero_le v0
    refine hK.out _ _ trivial fun _ => ?_
    exact (hGG.out _ _ _ _).2 (L1_2_00.out _ _ _ _ (by kernel_rfl) (hX.grow hlt r q) v1 (x2.grow q))
  · go_simp
    refine hK.out _ _ trivial fun _ => ?_
    exact (hGG.out _ _ _ _).2 (L0_23_00.out _ _ _ _ (by kernel_rfl) (hX.alloc _) (x2.alloc _) hX.new)
 clear L1_1_00 L1_2_00 L2__00 L1_3_00 L0_13_00 L0_23_00 L0_12_00
 have L0__00 : Hid (∀ (W : World) (l : Array Bool) , l = (lB [1, 5, 7, 10]) → LX w g a n cap W → G 13 l (lF g w.heap.size undef undef undef undef undef undef undef undef undef undef undef undef) W) := by
  intro W l  hl hX
  subst hl
  have hH : True := trivial
  refine (hGG.out _ _ _ _).1 ?_
  refine rd4 0 2 9 15 (fun K hK => ?_) (fun K hK => ?_) (fun K hK => ?_) (fun K hK => ?_)
  · go_simp
    refine hK.out _ _ trivial fun _ => ?_
    exact (hGG.out _ _ _ _).2 (L0_1_00.out _ _ _ (by kernel_rfl) (hX.alloc _) (hX.tab hlt _))
  · go_simp
    refine (below_any hX.hR 2 (by omega) (by omega)).mono ?_
    rintro e u ⟨v, rfl, v0, v1, r, q⟩
    obtain ⟨k1, rfl⟩ := Int.eq_ofNat_of_zero_le v0
    refine hK.out _ _ trivial fun _ => ?_
    exact (hGG.out _ _ _ _).2 (L1__00.out _ _ _ (by kernel_rfl) (hX.grow hlt r q) v1)
  · go_simp
    refine hK.out _ _ trivial fun _ => ?_
    exact (hGG.out _ _ _ _).2 (L0_2_00.out _ _ _ (by kernel_rfl) (hX.alloc _) (hX.tab hlt _))
  · go_simp
    refine hK.out _ _ trivial fun _ => ?_
    exact (hGG.out _ _ _ _).2 (L0_3_00.out _ _ _ (by kernel_rfl) (hX.alloc _) hX.new)
 clear L0_3_00 L0_1_00 L1__00 L0_2_00
 refine (hGG.out _ _ _ _).1 ?_
 refine tk 1 ?_
 refine tk 5 ?_
 refine tk 7 ?_
 refine tk 10 ?_
 exact (hGG.out _ _ _ _).2 (L0__00.out _ _ (by kernel_rfl) ⟨hG0.out, hR0.out, bR1.out⟩)
end Go.Proofs.YtdnembnlomnceaaGreat
