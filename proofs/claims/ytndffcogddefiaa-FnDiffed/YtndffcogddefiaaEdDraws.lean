/- What is drawn as an edit. -/
import Derived.Test.YtndffcogddefiaaDrawPath
import Derived.Test.YtndffcogddefiaaTreeDraw
import Derived.Test.YtndffcogddefiaaAtTops
import Derived.Test.YtndffcogddefiaaEdSpec
import Derived.Test.YtndffcogddefiaaTakeLit
import Derived.Test.YtndffcogddefiaaAppendRows
import Derived.Deep.DeepCutAuto
import Derived.Deep.CutBlock
import Derived.Deep.AppendLies
import Derived.Deep.AppendSrc
import Derived.ProofKit
namespace Go.Proofs.Ytndffcogddefiaa
open Go.RowKit Go.Deep
/-- it holds of every world that has kept all blocks but those of S -/
def Stab (S : Nat → Prop) (wx : World) (Q : World → Prop) : Prop := ∀ W, wx.heap.size ≤ W.heap.size → (∀ b, b < wx.heap.size → ¬ S b → W.heap[b]? = wx.heap[b]?) → Q W
theorem Stab.here {S : Nat → Prop} {wx : World} {Q : World → Prop} (h : Stab S wx Q) : Q wx := h wx (Nat.le_refl _) (fun _ _ _ => rfl)
theorem Stab.go {S : Nat → Prop} {wx W : World} {Q : World → Prop} (h : Stab S wx Q) (hz : wx.heap.size ≤ W.heap.size) (hk : ∀ b, b < wx.heap.size → ¬ S b → W.heap[b]? = wx.heap[b]?) : Stab S W Q := fun W' h1 h2 => h W' (Nat.le_trans hz h1) (fun b q r => (h2 b (by omega) r).trans (hk b q r))
theorem Stab.grow {S : Nat → Prop} {wx W : World} {Q : World → Prop} {g : Nat} (h : Stab S wx Q) (hg : wx.grownBy W (some g)) (hS : S g) : Stab S W Q := h.go hg.size (fun b q r => hg.block b q (fun e => by injection e with e; exact r (e ▸ hS)))
theorem Stab.below {S : Nat → Prop} {wx W : World} {Q : World → Prop} (h : Stab S wx Q) (hb : Below wx.heap.size wx W) : Stab S W Q := h.go hb.size (fun b q _ => hb.block b q)
theorem Stab.puts {S : Nat → Prop} {wx : World} {Q : World → Prop} (h : Stab S wx Q) {g o : Nat} (hS : S g) (cs : List Value) : Stab S (putCells wx g o cs) Q := h.go (by rw [putCells_size]; exact Nat.le_refl _) (fun b q r => putCells_other _ _ _ _ _ (fun e => r (e ▸ hS)))
theorem Stab.set {S : Nat → Prop} {wx : World} {Q : World → Prop} (h : Stab S wx Q) {g o : Nat} (hS : S g) (v : Value) : Stab S (wx.setCell ⟨g, o, none⟩ v) Q := h.puts (o := o) hS [v]
theorem seq_stab {S : Nat → Prop} {u : World} {lo : Nat} {v : Value} {p : List Int} (h : SeqAt 1 IntAt u lo v p) (hS : ∀ b, lo ≤ b → b < u.heap.size → ¬ S b) : Stab S u (fun W => SeqAt 1 IntAt W 0 v p) := fun _ h1 h2 => SeqAt.keep intAt_stays h ⟨h1, Nat.zero_le _, fun b q1 q2 => h2 b q2 (hS b q1 q2)⟩
theorem tree_stab {S : Nat → Prop} {u : World} {lo n : Nat} {t k : Value} {x : TD} (h : TreeAt u lo n t k x) (hS : ∀ b, lo ≤ b → b < u.heap.size → ¬ S b) : Stab S u (fun W => TreeAt W 0 n t k x) := fun _ h1 h2 => TreeAt.keep h1 (Nat.zero_le _) (fun b q1 q2 => h2 b q2 (hS b q1 q2)) n _ _ _ h
theorem zero_at (W : World) : TreeAt W 0 4 (.string ⟨#[]⟩) (.slice none 0 0) zeroT := TreeL.at 4 _ _ _ (TreeO_at (lo := 0) 4 _ _ _ _ (TreeO_mono (by omega) (treeO_zero W)) (fun _ _ => Nat.zero_le _))
theorem zero_stab {S : Nat → Prop} {u : World} : Stab S u (fun W => TreeAt W 0 4 (.string ⟨#[]⟩) (.slice none 0 0) zeroT) := fun W _ _ => zero_at W
def SX (w : World) (_ E : Nat) (b : Nat) : Prop := b < w.heap.size + 2 ∨ b = E
theorem grown_puts {w W : World} {g E o : Nat} (cs : List Value) (h : w.grownBy W (some g)) (hE : w.heap.size ≤ E) : w.grownBy (putCells W E o cs) (some g) := by
  induction cs generalizing o W with
  | nil => exact h
  | cons c cs ih => exact ih (o := o + 1) ⟨h.os, h.tape, h.output, by rw [set_size]; exact h.size, fun x hx hne => (set_other (by omega) _).trans (h.block x hx hne)⟩
/-- an edit that is being drawn -/
structure EdS (w : World) (g : Nat) (a : Option Addr) (nn cap : Nat) (s : ByteArray) (y1 : Option Addr) (y2 : Nat) (d : TD) (L E : Nat) (v t2 k2 : Value) (e : EditD) (wx : World) : Prop where
  bT : Hid (Box wx w.heap.size [.string s, .slice y1 (kidsOf d).length y2] 26)
  bR : Box wx (w.heap.size + 1) [.int .i64 0, .slice none 0 0, .string ⟨#[]⟩, .string ⟨#[]⟩, .slice none 0 0] 29
  bE : Box wx E [.int .i64 e.vKind, v, .string e.vTag, t2, k2] 29
  hE : w.heap.size + 2 ≤ E
  hK : InI e.vKind
  hP : Stab (SX w g E) wx (fun W => SeqAt 1 IntAt W 0 v e.vPath)
  hl : e.vPath.length ≤ L
  hs : e.vTag.size ≤ maxLen
  hX : Stab (SX w g E) wx (fun W => TreeAt W 0 4 t2 k2 e.vTree)
  hr : RdAt wx g a nn cap
  hg : w.grownBy wx (some g)
theorem EdS.below {w : World} {g : Nat} {a : Option Addr} {nn cap : Nat} {s : ByteArray} {y1 : Option Addr} {y2 : Nat} {d : TD} {L E : Nat} {v t2 k2 : Value} {e : EditD} {wx W : World} (h : EdS w g a nn cap s y1 y2 d L E v t2 k2 e wx) (hb : Below wx.heap.size wx W) : EdS w g a nn cap s y1 y2 d L E v t2 k2 e W :=
  ⟨h.bT.out.below hb h.bT.out.lt, h.bR.below hb h.bR.lt, h.bE.below hb h.bE.lt, h.hE, h.hK, h.hP.below hb, h.hl, h.hs, h.hX.below hb, h.hr.below hb, grown_on h.hg (grown_of_below hb _)⟩
theorem EdS.grow {w : World} {g : Nat} {a : Option Addr} {nn cap : Nat} {s : ByteArray} {y1 : Option Addr} {y2 : Nat} {d : TD} {L E : Nat} {v t2 k2 : Value} {e : EditD} {wx W : World} (h : EdS w g a nn cap s y1 y2 d L E v t2 k2 e wx) (hlt : g < w.heap.size) (hr : RdAt W g a nn cap) (hg : wx.grownBy W (some g)) : EdS w g a nn cap s y1 y2 d L E v t2 k2 e W :=
  ⟨box_other h.bT.out (by omega) hg, box_other h.bR (by omega) hg, box_other h.bE (by have := h.hE; omega) hg, h.hE, h.hK, h.hP.grow hg (Or.inl (by omega)), h.hl, h.hs, h.hX.grow hg (Or.inl (by omega)), hr, grown_on h.hg hg⟩
theorem EdS.more {w : World} {g : Nat} {a : Option Addr} {nn cap : Nat} {s : ByteArray} {y1 : Option Addr} {y2 : Nat} {d : TD} {L M E : Nat} {v t2 k2 : Value} {e : EditD} {wx : World} (h : EdS w g a nn cap s y1 y2 d L E v t2 k2 e wx) (q : L ≤ M) : EdS w g a nn cap s y1 y2 d M E v t2 k2 e wx :=
  ⟨h.bT, h.bR, h.bE, h.hE, h.hK, h.hP, Nat.le_trans h.hl q, h.hs, h.hX, h.hr, h.hg⟩
/-- one cell of the edit turned -/
theorem EdS.turn {w : World} {g : Nat} {a : Option Addr} {nn cap : Nat} {s : ByteArray} {y1 : Option Addr} {y2 : Nat} {d : TD} {L M E i : Nat} {u v v' t2 k2 : Value} {e e' : EditD} {wx : World} (h : EdS w g a nn cap s y1 y2 d L E v t2 k2 e wx) (hlt : g < w.heap.size) (hb : Box (wx.setCell ⟨E, i, none⟩ u) E [.int .i64 e'.vKind, v', .string e'.vTag, t2, k2] 29) (hK : InI e'.vKind) (hP : Stab (SX w g E) wx (fun W => SeqAt 1 IntAt W 0 v' e'.vPath)) (hl : e'.vPath.length ≤ M) (hs : e'.vTag.size ≤ maxLen) (hX : e'.vTree = e.vTree) : EdS w g a nn cap s y1 y2 d M E v' t2 k2 e' (wx.setCell ⟨E, i, none⟩ u) := by
  have hE := h.hE
  refine ⟨(set_other (by omega) _).trans h.bT.out, (set_other (by omega) _).trans h.bR, hb, hE, hK, hP.set (Or.inr rfl) _, hl, hs, ?_, h.hr.keep (fun b hb => set_other (by omega) _), grown_puts [u] h.hg (by omega)⟩
  rw [hX]; exact h.hX.set (Or.inr rfl) _
theorem row_grownD {w w' : World} {base n g T c : Nat} {v : Value} {xs : List Value} (h : w.ownsRow base T c v n xs) (hg : w.grownBy w' (some g)) (hne : g < base) : w'.ownsRow base T c v n xs := by
  refine ⟨h.1, ?_⟩
  rcases h.2 with q | ⟨r, cap, cur, q, h1, h2, h3⟩
  · exact Or.inl q
  · exact Or.inr ⟨r, cap, cur, q, h1, (hg.block r (Array.getElem?_eq_some_iff.1 h2).1 (fun e => by injection e with e; omega)).trans h2, h3⟩
theorem grown_belowB {w w9 w' : World} {g : Nat} (h : w.grownBy w9 (some g)) (hb : Below w.heap.size w9 w') : w.grownBy w' (some g) := ⟨hb.os.trans h.os, hb.tape.trans h.tape, hb.output.trans h.output, Nat.le_trans h.size hb.size, fun b q r => (hb.block b q).trans (h.block b q r)⟩
theorem seqAt_inID {w : World} {lo : Nat} {k : Value} {xs : List Int} (h : SeqAt 1 IntAt w lo k xs) : ∀ x ∈ xs, InI x := by
  intro x hx
  obtain ⟨i, hi, rfl⟩ := List.getElem_of_mem hx
  obtain ⟨a, cap, _, _, hc⟩ := h
  obtain ⟨b, off, _, _, _, hc⟩ := hc (by omega)
  obtain ⟨cs, _, _, hr⟩ := hc i hi
  exact hr.2
theorem Stab.less {S S' : Nat → Prop} {wx : World} {Q : World → Prop} (h : Stab S wx Q) (hs : ∀ b, S' b → S b) : Stab S' wx Q := fun W h1 h2 => h W h1 (fun b q r => h2 b q (fun z => r (hs b z)))
theorem atD_few {n : Nat} {d : TD} {path : List Int} : (kidsOf (atD (okB (szD n d 30)) d path).1).length ≤ 30 := by
  unfold atD
  split
  · next hh =>
    have h1 : okB (szD n d 30) = true := by revert hh; cases okB (szD n d 30) <;> simp
    have h2 : okP d path = true := by revert hh; cases okP d path <;> simp
    exact ((right_of_ok h1).ends path h2).few
  · exact Nat.zero_le _
theorem box1_at {w : World} {g lo : Nat} {x : Int} (h : Box w g [.int .i64 x] 2) (hx : InI x) (hlo : lo ≤ g := by exact Nat.zero_le _) : SeqAt 1 IntAt w lo (.slice (some ⟨g, 0, none⟩) 1 1) [x] := by
  refine ⟨some ⟨g, 0, none⟩, 1, rfl, ⟨by show 1 ≤ maxLen; unfold maxLen; omega, Nat.le_refl _⟩, fun _ => ⟨g, 0, rfl, hlo, h.lt, fun i hi => ⟨[.int .i64 x], rfl, fun m hm => ?_, ?_⟩⟩⟩
  · obtain rfl : i = 0 := by simp at hi; omega
    obtain rfl : m = 0 := by simp at hm; omega
    exact h.cell 0 rfl
  · obtain rfl : i = 0 := by simp at hi; omega
    exact ⟨rfl, hx⟩
set_option maxRecDepth 100000 in
set_option maxHeartbeats 8000000 in
theorem edit_any {w : World} {g : Nat} {a : Option Addr} {nn cap n lo : Nat} {t k : Value} {d : TD} (h : RdAt w g a nn cap) (ht : TreeAt w lo n t k d) (hlo : g < lo) (hn : n ≤ 1000) :
    Calls Try.prog 43 #[.pointer (some ⟨g, 0, none⟩), .agg #[t, k]] w fun e1 w' => (∃ (cs : List Value) (x : EditD), e1 = .returned (.agg cs.toArray) ∧ Stab (fun b => b < w.heap.size) w' (fun W => EditAt 4 W 0 cs x) ∧ x.vPath.length ≤ n + 2) ∧ RdAt w' g a nn cap ∧ w.grownBy w' (some g) := by
  have hlt := h.lt
  have hrw : Hid (RdAt w g a nn cap) := h
  have hD0 : Hid (∀ W, w.grownBy W (some g) → TreeAt W lo n t k d) := fun W hg => TreeAt.keep hg.size (Nat.le_refl _) (fun b q1 q2 => hg.block b q2 (fun e => by injection e with e; omega)) n _ _ _ ht
  obtain ⟨⟨s, rfl⟩, y1, y2, rfl⟩ := ht.form
  clear h ht
  have hb0 : Below w.heap.size w ((w.alloc (.cells #[.string s, .slice y1 (kidsOf d).length y2] 26)).alloc (.cells #[.int .i64 0, .slice none 0 0, .string ⟨#[]⟩, .string ⟨#[]⟩, .slice none 0 0] 29)) := ((Below.refl _ _).alloc (Nat.le_refl _) _).alloc (by simp) _
  have hG0 : Hid (w.grownBy ((w.alloc (.cells #[.string s, .slice y1 (kidsOf d).length y2] 26)).alloc (.cells #[.int .i64 0, .slice none 0 0, .string ⟨#[]⟩, .string ⟨#[]⟩, .slice none 0 0] 29)) (some g)) := grown_of_below hb0 _
  have hR0 : Hid (RdAt ((w.alloc (.cells #[.string s, .slice y1 (kidsOf d).length y2] 26)).alloc (.cells #[.int .i64 0, .slice none 0 0, .string ⟨#[]⟩, .string ⟨#[]⟩, .slice none 0 0] 29)) g a nn cap) := hrw.out.below hb0
  have bT0 : Hid (Box ((w.alloc (.cells #[.string s, .slice y1 (kidsOf d).length y2] 26)).alloc (.cells #[.int .i64 0, .slice none 0 0, .string ⟨#[]⟩, .string ⟨#[]⟩, .slice none 0 0] 29)) w.heap.size [.string s, .slice y1 (kidsOf d).length y2] 26) := (Box.new w [.string s, .slice y1 (kidsOf d).length y2] 26).alloc _
  have bR0 : Hid (Box ((w.alloc (.cells #[.string s, .slice y1 (kidsOf d).length y2] 26)).alloc (.cells #[.int .i64 0, .slice none 0 0, .string ⟨#[]⟩, .string ⟨#[]⟩, .slice none 0 0] 29)) (w.heap.size + 1) [.int .i64 0, .slice none 0 0, .string ⟨#[]⟩, .string ⟨#[]⟩, .slice none 0 0] 29) := by have q := Box.new (w.alloc (.cells #[.string s, .slice y1 (kidsOf d).length y2] 26)) [.int .i64 0, .slice none 0 0, .string ⟨#[]⟩, .string ⟨#[]⟩, .slice none 0 0] 29; rw [World.size_alloc] at q; exact q
  have sz0 : w.heap.size + 2 ≤ ((w.alloc (.cells #[.string s, .slice y1 (kidsOf d).length y2] 26)).alloc (.cells #[.int .i64 0, .slice none 0 0, .string ⟨#[]⟩, .string ⟨#[]⟩, .slice none 0 0] 29)).heap.size := by simp
  clear hb0 hrw
  go_enter Try.func43, Try.ntmps43
  go_upto_region 1 with fail
  generalize ((w.alloc (.cells #[.string s, .slice y1 (kidsOf d).length y2] 26)).alloc (.cells #[.int .i64 0, .slice none 0 0, .string ⟨#[]⟩, .string ⟨#[]⟩, .slice none 0 0] 29)) = wa at hG0 hR0 bT0 bR0 sz0 ⊢
  have hbd : Below wa.heap.size wa wa.drew := Below.drew (Below.refl _ _)
  have hG1 : Hid (w.grownBy wa.drew (some g)) := grown_on hG0.out (grown_of_below hbd _)
  have hR1 : Hid (RdAt wa.drew g a nn cap) := hR0.out.below hbd
  have bT1 : Hid (Box wa.drew w.heap.size [.string s, .slice y1 (kidsOf d).length y2] 26) := bT0.out.below hbd bT0.out.lt
  have bR1 : Hid (Box wa.drew (w.heap.size + 1) [.int .i64 0, .slice none 0 0, .string ⟨#[]⟩, .string ⟨#[]⟩, .slice none 0 0] 29) := bR0.out.below hbd bR0.out.lt
  clear hbd
  go_cut [5] from 8 (fun vE wx => ∃ (E : Nat) (v t2 k2 : Value) (e : EditD), vE = .pointer (some ⟨E, 0, none⟩) ∧ EdS w g a nn cap s y1 y2 d (n + 1) E v t2 k2 e wx)
  case first =>
    refine wp_region_held_drew (S := fun w' => w'.cell? ⟨w.heap.size, 0, none⟩ = some (.string s) ∧ w'.cell? ⟨w.heap.size, 1, none⟩ = some (.slice y1 (kidsOf d).length y2)) (by kernel_rfl) ⟨bT0.out.cell 0 rfl, bT0.out.cell 1 rfl⟩ (fun hHeld => ?_)
    refine tq (i := 0) (d := 8) ?_
    simp only [sz, ss]
    refine tq (i := 3) (d := 11) ?_
    simp only [sz, ss]
    refine tq (i := 4) (d := 12) ?_
    simp only [sz, ss]
    refine wpAnyH_ready (rs := [1, 7]) (by kernel_rfl) (by simp) ?_
    refine (AllReadyH.cons rfl (fun K hK => ?_) (AllReadyH.cons rfl (fun K hK => ?_) AllReadyH.nil))
    · go_simp
      refine (below_any (by exact hR1.out) 3 (by omega) (by omega)).mono ?_
      rintro e1 u1 ⟨v1, rfl, hv0, hv3, hru1, hgu1⟩
      have hR2 : Hid (RdAt u1 g a nn cap) := hru1
      have hgu1' : World.grownBy wa.drew u1 (some g) := ⟨hgu1.os, hgu1.tape, hgu1.output, hgu1.size, hgu1.block⟩
      have hG2 : Hid (w.grownBy u1 (some g)) := grown_on hG1.out hgu1'
      have bT2 : Hid (Box u1 w.heap.size [.string s, .slice y1 (kidsOf d).length y2] 26) := box_other bT1.out (by omega) hgu1'
      have bR2 : Hid (Box u1 (w.heap.size + 1) [.int .i64 0, .slice none 0 0, .string ⟨#[]⟩, .string ⟨#[]⟩, .slice none 0 0] 29) := box_other bR1.out (by omega) hgu1'
      have sz2 := hG2.out.size
      have lr2 : w.heap.size + 1 < (World.heap u1).size := bR2.out.lt
      have hw1 : IntKind.i64.wrap (1 + v1) = 1 + v1 := by rw [IntKind.wrap_i64]; omega
      have lu1 : (World.heap wa.drew).size ≤ u1.heap.size := hgu1'.size
      clear hru1 hgu1 hgu1'
      refine hK.out _ _ ⟨bT2.out.cell 0 rfl, bT2.out.cell 1 rfl⟩ (fun hHeld => ?_)
      clear hK K
      refine tq (i := 2) (d := 10) ?_
      simp only [sz, ss]
      refine wpAnyH_ready (rs := [5, 7]) (by kernel_rfl) (by simp) ?_
      refine (AllReadyH.cons rfl (fun K hK => ?_) (AllReadyH.cons rfl (fun K hK => ?_) AllReadyH.nil))
      · go_simp
        refine (path_any (by exact hR2.out) (by exact hD0.out _ hG2.out)).mono ?_
        rintro e1 u2 ⟨⟨v4, p, rfl, hp0, hpl0⟩, hru2, hgu2⟩
        obtain ⟨ap, cp, rfl⟩ := hp0.form
        have hR3 : Hid (RdAt u2 g a nn cap) := hru2
        have hgu2' : World.grownBy u1 u2 (some g) := ⟨hgu2.os, hgu2.tape, hgu2.output, hgu2.size, hgu2.block⟩
        have lu2 : (World.heap u1).size ≤ u2.heap.size := hgu2'.size
        have hG3 : Hid (w.grownBy u2 (some g)) := grown_on hG2.out hgu2'
        have bT3 : Hid (Box u2 w.heap.size [.string s, .slice y1 (kidsOf d).length y2] 26) := box_other bT2.out (by omega) hgu2'
        have bR3 : Hid (Box u2 (w.heap.size + 1) [.int .i64 0, .slice none 0 0, .string ⟨#[]⟩, .string ⟨#[]⟩, .slice none 0 0] 29) := box_other bR2.out (by omega) hgu2'
        have sz3 := hG3.out.size
        have lr3 : w.heap.size + 1 < (World.heap u2).size := bR3.out.lt
        have hpl : Hid (p.length ≤ n + 1) := hpl0
        have hp5 : Hid (SeqAt 1 IntAt u2 (World.heap u1).size (.slice ap p.length cp) p) := hp0
        clear hp0 hpl0 hru2 hgu2 hgu2'
        refine hK.out _ _ ⟨bT3.out.cell 0 rfl, bT3.out.cell 1 rfl⟩ (fun hHeld => ?_)
        clear hK K
        refine tq (i := 6) (d := 14) ?_
        simp only [sz, ss]
        refine wpAnyH_ready (rs := [7]) (by kernel_rfl) (by simp) ?_
        refine AllReadyH.cons rfl (fun K hK => ?_) AllReadyH.nil
        go_simp
        have hG4 : Hid (w.grownBy (World.alloc u2 (.cells #[.int .i64 0, .slice none 0 0, .string ⟨#[]⟩, .string ⟨#[]⟩, .slice none 0 0] 29)) (some g)) := grown_on hG3.out (grown_of_below ((Below.refl _ u2).alloc (Nat.le_refl _) _) _)
        have bT4 : Hid (Box (World.alloc u2 (.cells #[.int .i64 0, .slice none 0 0, .string ⟨#[]⟩, .string ⟨#[]⟩, .slice none 0 0] 29)) w.heap.size [.string s, .slice y1 (kidsOf d).length y2] 26) := bT3.out.below ((Below.refl _ u2).alloc (Nat.le_refl _) _) bT3.out.lt
        have bR4 : Hid (Box (World.alloc u2 (.cells #[.int .i64 0, .slice none 0 0, .string ⟨#[]⟩, .string ⟨#[]⟩, .slice none 0 0] 29)) (w.heap.size + 1) [.int .i64 0, .slice none 0 0, .string ⟨#[]⟩, .string ⟨#[]⟩, .slice none 0 0] 29) := bR3.out.below ((Below.refl _ u2).alloc (Nat.le_refl _) _) bR3.out.lt
        have hR4 : Hid (RdAt (World.alloc u2 (.cells #[.int .i64 0, .slice none 0 0, .string ⟨#[]⟩, .string ⟨#[]⟩, .slice none 0 0] 29)) g a nn cap) := hR3.out.below ((Below.refl _ u2).alloc (Nat.le_refl _) _)
        have sz4 := hG4.out.size
        have lr4 : w.heap.size + 1 < (World.heap (World.alloc u2 (.cells #[.int .i64 0, .slice none 0 0, .string ⟨#[]⟩, .string ⟨#[]⟩, .slice none 0 0] 29))).size := bR4.out.lt
        obtain ⟨EE, hEE⟩ : ∃ EE, u2.heap.size = EE := ⟨_, rfl⟩
        have bE4 : Hid (Box (World.alloc u2 (.cells #[.int .i64 0, .slice none 0 0, .string ⟨#[]⟩, .string ⟨#[]⟩, .slice none 0 0] 29)) EE [.int .i64 0, .slice none 0 0, .string ⟨#[]⟩, .string ⟨#[]⟩, .slice none 0 0] 29) := by rw [← hEE]; exact Box.new u2 _ _
        have lRo : w.heap.size + 1 < u2.heap.size := bR3.out.lt
        have lEE : w.heap.size + 2 ≤ EE := by rw [← hEE]; omega
        have lE0 : EE < (World.heap (World.alloc u2 (.cells #[.int .i64 0, .slice none 0 0, .string ⟨#[]⟩, .string ⟨#[]⟩, .slice none 0 0] 29))).size := bE4.out.lt
        have hEEh : Hid (u2.heap.size = EE) := hEE
        clear hEE
        refine hK.out _ _ ⟨bT4.out.cell 0 rfl, bT4.out.cell 1 rfl⟩ (fun hHeld => ?_)
        clear hK K
        refine wpAnyH_ready (rs := [8]) (by kernel_rfl) (by simp) ?_
        refine AllReadyH.cons rfl (fun K hK => ?_) AllReadyH.nil
        go_simp
        have bT9 : Hid (Box (World.alloc u2 (.cells #[.int .i64 (1 + v1), .slice ap p.length cp, .string ⟨#[]⟩, .string ⟨#[]⟩, .slice none 0 0] 29)) w.heap.size [.string s, .slice y1 (kidsOf d).length y2] 26) := bT3.out.below ((Below.refl _ u2).alloc (Nat.le_refl _) _) bT3.out.lt
        refine hK.out _ _ ⟨bT9.out.cell 0 rfl, bT9.out.cell 1 rfl⟩ (fun hHeld => ?_)
        clear hK K
        refine wpAnyH_done (by kernel_rfl) ?_ _
        have lW : (World.heap (World.alloc u2 (.cells #[.int .i64 (1 + v1), .slice ap p.length cp, .string ⟨#[]⟩, .string ⟨#[]⟩, .slice none 0 0] 29))).size = u2.heap.size + 1 := by simp
        have eEE := hEEh.out
        have bEF : Box (World.alloc u2 (.cells #[.int .i64 (1 + v1), .slice ap p.length cp, .string ⟨#[]⟩, .string ⟨#[]⟩, .slice none 0 0] 29)) EE [.int .i64 (1 + v1), .slice ap p.length cp, .string ⟨#[]⟩, .string ⟨#[]⟩, .slice none 0 0] 29 := by rw [← hEEh.out]; exact Box.new u2 _ _
        have bRF : Box (World.alloc u2 (.cells #[.int .i64 (1 + v1), .slice ap p.length cp, .string ⟨#[]⟩, .string ⟨#[]⟩, .slice none 0 0] 29)) (w.heap.size + 1) [.int .i64 0, .slice none 0 0, .string ⟨#[]⟩, .string ⟨#[]⟩, .slice none 0 0] 29 := bR3.out.below ((Below.refl _ u2).alloc (Nat.le_refl _) _) bR3.out.lt
        have hGF : w.grownBy (World.alloc u2 (.cells #[.int .i64 (1 + v1), .slice ap p.length cp, .string ⟨#[]⟩, .string ⟨#[]⟩, .slice none 0 0] 29)) (some g) := grown_on hG3.out (grown_of_below ((Below.refl _ u2).alloc (Nat.le_refl _) _) _)
        have hRF : RdAt (World.alloc u2 (.cells #[.int .i64 (1 + v1), .slice ap p.length cp, .string ⟨#[]⟩, .string ⟨#[]⟩, .slice none 0 0] 29)) g a nn cap := hR3.out.below ((Below.refl _ u2).alloc (Nat.le_refl _) _)
        have hPF : Stab (SX w g EE) (World.alloc u2 (.cells #[.int .i64 (1 + v1), .slice ap p.length cp, .string ⟨#[]⟩, .string ⟨#[]⟩, .slice none 0 0] 29)) (fun W' => SeqAt 1 IntAt W' 0 (.slice ap p.length cp) p) := (seq_stab hp5.out (fun b h1 h2 h3 => by rcases h3 with h3 | h3 <;> omega)).below ((Below.refl _ u2).alloc (Nat.le_refl _) _)
        go_wp2_with fail
        go_meet
        exact ⟨EE, _, _, _, ⟨1 + v1, p, ⟨#[]⟩, zeroT⟩, by rw [eEE], bT9, bRF, bEF, lEE, (by show InI (1 + v1); unfold InI; omega), hPF, hpl.out, Nat.zero_le _, zero_stab, hRF, hGF⟩
      · go_simp
        have hG3 : Hid (w.grownBy (World.alloc u1 (.cells #[.int .i64 0, .slice none 0 0, .string ⟨#[]⟩, .string ⟨#[]⟩, .slice none 0 0] 29)) (some g)) := grown_on hG2.out (grown_of_below ((Below.refl _ u1).alloc (Nat.le_refl _) _) _)
        have bT3 : Hid (Box (World.alloc u1 (.cells #[.int .i64 0, .slice none 0 0, .string ⟨#[]⟩, .string ⟨#[]⟩, .slice none 0 0] 29)) w.heap.size [.string s, .slice y1 (kidsOf d).length y2] 26) := bT2.out.below ((Below.refl _ u1).alloc (Nat.le_refl _) _) bT2.out.lt
        have bR3 : Hid (Box (World.alloc u1 (.cells #[.int .i64 0, .slice none 0 0, .string ⟨#[]⟩, .string ⟨#[]⟩, .slice none 0 0] 29)) (w.heap.size + 1) [.int .i64 0, .slice none 0 0, .string ⟨#[]⟩, .string ⟨#[]⟩, .slice none 0 0] 29) := bR2.out.below ((Below.refl _ u1).alloc (Nat.le_refl _) _) bR2.out.lt
        have hR3 : Hid (RdAt (World.alloc u1 (.cells #[.int .i64 0, .slice none 0 0, .string ⟨#[]⟩, .string ⟨#[]⟩, .slice none 0 0] 29)) g a nn cap) := hR2.out.below ((Below.refl _ u1).alloc (Nat.le_refl _) _)
        have sz3 := hG3.out.size
        have lr3 : w.heap.size + 1 < (World.heap (World.alloc u1 (.cells #[.int .i64 0, .slice none 0 0, .string ⟨#[]⟩, .string ⟨#[]⟩, .slice none 0 0] 29))).size := bR3.out.lt
        obtain ⟨EE, hEE⟩ : ∃ EE, u1.heap.size = EE := ⟨_, rfl⟩
        have bE3 : Hid (Box (World.alloc u1 (.cells #[.int .i64 0, .slice none 0 0, .string ⟨#[]⟩, .string ⟨#[]⟩, .slice none 0 0] 29)) EE [.int .i64 0, .slice none 0 0, .string ⟨#[]⟩, .string ⟨#[]⟩, .slice none 0 0] 29) := by rw [← hEE]; exact Box.new u1 _ _
        have lRo : w.heap.size + 1 < u1.heap.size := bR2.out.lt
        have lEE : w.heap.size + 2 ≤ EE := by rw [← hEE]; omega
        have lE0 : EE < (World.heap (World.alloc u1 (.cells #[.int .i64 0, .slice none 0 0, .string ⟨#[]⟩, .string ⟨#[]⟩, .slice none 0 0] 29))).size := bE3.out.lt
        have hEEh : Hid (u1.heap.size = EE) := hEE
        clear hEE
        refine hK.out _ _ ⟨bT3.out.cell 0 rfl, bT3.out.cell 1 rfl⟩ (fun hHeld => ?_)
        clear hK K
        refine wpAnyH_ready (rs := [5]) (by kernel_rfl) (by simp) ?_
        refine AllReadyH.cons rfl (fun K hK => ?_) AllReadyH.nil
        go_simp
        refine (path_any (by exact hR3.out) (by exact hD0.out _ hG3.out)).mono ?_
        rintro e1 u2 ⟨⟨v4, p, rfl, hp0, hpl0⟩, hru2, hgu2⟩
        obtain ⟨ap, cp, rfl⟩ := hp0.form
        have hR4 : Hid (RdAt u2 g a nn cap) := hru2
        have hgu2' : World.grownBy (World.alloc u1 (.cells #[.int .i64 0, .slice none 0 0, .string ⟨#[]⟩, .string ⟨#[]⟩, .slice none 0 0] 29)) u2 (some g) := ⟨hgu2.os, hgu2.tape, hgu2.output, hgu2.size, hgu2.block⟩
        have lu2 : (World.heap (World.alloc u1 (.cells #[.int .i64 0, .slice none 0 0, .string ⟨#[]⟩, .string ⟨#[]⟩, .slice none 0 0] 29))).size ≤ u2.heap.size := hgu2'.size
        have hG4 : Hid (w.grownBy u2 (some g)) := grown_on hG3.out hgu2'
        have bT4 : Hid (Box u2 w.heap.size [.string s, .slice y1 (kidsOf d).length y2] 26) := box_other bT3.out (by omega) hgu2'
        have bR4 : Hid (Box u2 (w.heap.size + 1) [.int .i64 0, .slice none 0 0, .string ⟨#[]⟩, .string ⟨#[]⟩, .slice none 0 0] 29) := box_other bR3.out (by omega) hgu2'
        have bE4 : Hid (Box u2 EE [.int .i64 0, .slice none 0 0, .string ⟨#[]⟩, .string ⟨#[]⟩, .slice none 0 0] 29) := box_other bE3.out (by omega) hgu2'
        have sz4 := hG4.out.size
        have lr4 : w.heap.size + 1 < (World.heap u2).size := bR4.out.lt
        have hpl : Hid (p.length ≤ n + 1) := hpl0
        have hp5 : Hid (SeqAt 1 IntAt u2 (World.heap (World.alloc u1 (.cells #[.int .i64 0, .slice none 0 0, .string ⟨#[]⟩, .string ⟨#[]⟩, .slice none 0 0] 29))).size (.slice ap p.length cp) p) := hp0
        clear hp0 hpl0 hru2 hgu2 hgu2'
        refine hK.out _ _ ⟨bT4.out.cell 0 rfl, bT4.out.cell 1 rfl⟩ (fun hHeld => ?_)
        clear hK K
        refine tq (i := 6) (d := 14) ?_
        simp only [sz, ss]
        refine wpAnyH_ready (rs := [8]) (by kernel_rfl) (by simp) ?_
        refine AllReadyH.cons rfl (fun K hK => ?_) AllReadyH.nil
        have bE9 := bE4.out
        rw [← hEEh.out] at bE9
        have u0_ := bE9.cell 0 rfl
        have u1_ := bE9.cell 1 rfl
        have u2_ := bE9.cell 2 rfl
        have u3_ := bE9.cell 3 rfl
        have u4_ := bE9.cell 4 rfl
        have uf_ := bE9.unfrozen
        go_simp
        have bT9 : Hid (Box (putCells u2 u1.heap.size 0 [.int .i64 (1 + v1), .slice ap p.length cp, .string ⟨#[]⟩, .string ⟨#[]⟩, .slice none 0 0]) w.heap.size [.string s, .slice y1 (kidsOf d).length y2] 26) := (putCells_other _ _ _ _ _ (by rw [hEEh.out]; omega)).trans bT4.out
        refine hK.out _ _ ⟨bT9.out.cell 0 rfl, bT9.out.cell 1 rfl⟩ (fun hHeld => ?_)
        clear hK K
        refine wpAnyH_done (by kernel_rfl) ?_ _
        have eEE := hEEh.out
        have bEF : Box (putCells u2 u1.heap.size 0 [.int .i64 (1 + v1), .slice ap p.length cp, .string ⟨#[]⟩, .string ⟨#[]⟩, .slice none 0 0]) EE [.int .i64 (1 + v1), .slice ap p.length cp, .string ⟨#[]⟩, .string ⟨#[]⟩, .slice none 0 0] 29 := by rw [eEE]; exact ((((bE4.out.set (i := 0) _).set (i := 1) _).set (i := 2) _).set (i := 3) _).set (i := 4) _
        have bRF : Box (putCells u2 u1.heap.size 0 [.int .i64 (1 + v1), .slice ap p.length cp, .string ⟨#[]⟩, .string ⟨#[]⟩, .slice none 0 0]) (w.heap.size + 1) [.int .i64 0, .slice none 0 0, .string ⟨#[]⟩, .string ⟨#[]⟩, .slice none 0 0] 29 := (putCells_other _ _ _ _ _ (by rw [eEE]; omega)).trans bR4.out
        have hGF : w.grownBy (putCells u2 u1.heap.size 0 [.int .i64 (1 + v1), .slice ap p.length cp, .string ⟨#[]⟩, .string ⟨#[]⟩, .slice none 0 0]) (some g) := grown_puts _ hG4.out (by rw [eEE]; omega)
        have hRF : RdAt (putCells u2 u1.heap.size 0 [.int .i64 (1 + v1), .slice ap p.length cp, .string ⟨#[]⟩, .string ⟨#[]⟩, .slice none 0 0]) g a nn cap := hR4.out.keep (fun b hb => putCells_other _ _ _ _ _ (by rw [eEE]; omega))
        have hPF : Stab (SX w g EE) (putCells u2 u1.heap.size 0 [.int .i64 (1 + v1), .slice ap p.length cp, .string ⟨#[]⟩, .string ⟨#[]⟩, .slice none 0 0]) (fun W' => SeqAt 1 IntAt W' 0 (.slice ap p.length cp) p) := (seq_stab hp5.out (fun b h1 h2 h3 => by rcases h3 with h3 | h3 <;> omega)).go (by rw [putCells_size]; exact Nat.le_refl _) (fun b h1 h2 => putCells_other _ _ _ _ _ (fun e => h2 (Or.inr (by rw [e, eEE]))))
        go_wp2_with fail
        go_meet
        exact ⟨EE, _, _, _, ⟨1 + v1, p, ⟨#[]⟩, zeroT⟩, by rw [eEE], bT9, bRF, bEF, lEE, (by show InI (1 + v1); unfold InI; omega), hPF, hpl.out, Nat.zero_le _, zero_stab, hRF, hGF⟩
    · go_simp
      have hG2 : Hid (w.grownBy (World.alloc wa.drew (.cells #[.int .i64 0, .slice none 0 0, .string ⟨#[]⟩, .string ⟨#[]⟩, .slice none 0 0] 29)) (some g)) := grown_on hG1.out (grown_of_below ((Below.refl _ wa.drew).alloc (Nat.le_refl _) _) _)
      have bT2 : Hid (Box (World.alloc wa.drew (.cells #[.int .i64 0, .slice none 0 0, .string ⟨#[]⟩, .string ⟨#[]⟩, .slice none 0 0] 29)) w.heap.size [.string s, .slice y1 (kidsOf d).length y2] 26) := bT1.out.below ((Below.refl _ wa.drew).alloc (Nat.le_refl _) _) bT1.out.lt
      have bR2 : Hid (Box (World.alloc wa.drew (.cells #[.int .i64 0, .slice none 0 0, .string ⟨#[]⟩, .string ⟨#[]⟩, .slice none 0 0] 29)) (w.heap.size + 1) [.int .i64 0, .slice none 0 0, .string ⟨#[]⟩, .string ⟨#[]⟩, .slice none 0 0] 29) := bR1.out.below ((Below.refl _ wa.drew).alloc (Nat.le_refl _) _) bR1.out.lt
      have hR2 : Hid (RdAt (World.alloc wa.drew (.cells #[.int .i64 0, .slice none 0 0, .string ⟨#[]⟩, .string ⟨#[]⟩, .slice none 0 0] 29)) g a nn cap) := hR1.out.below ((Below.refl _ wa.drew).alloc (Nat.le_refl _) _)
      have sz2 := hG2.out.size
      have lr2 : w.heap.size + 1 < (World.heap (World.alloc wa.drew (.cells #[.int .i64 0, .slice none 0 0, .string ⟨#[]⟩, .string ⟨#[]⟩, .slice none 0 0] 29))).size := bR2.out.lt
      obtain ⟨EE, hEE⟩ : ∃ EE, wa.heap.size = EE := ⟨_, rfl⟩
      have bE2 : Hid (Box (World.alloc wa.drew (.cells #[.int .i64 0, .slice none 0 0, .string ⟨#[]⟩, .string ⟨#[]⟩, .slice none 0 0] 29)) EE [.int .i64 0, .slice none 0 0, .string ⟨#[]⟩, .string ⟨#[]⟩, .slice none 0 0] 29) := by rw [← hEE]; exact Box.new wa.drew _ _
      have lRo : w.heap.size + 1 < wa.heap.size := bR1.out.lt
      have lEE : w.heap.size + 2 ≤ EE := by rw [← hEE]; omega
      have lE0 : EE < (World.heap (World.alloc wa.drew (.cells #[.int .i64 0, .slice none 0 0, .string ⟨#[]⟩, .string ⟨#[]⟩, .slice none 0 0] 29))).size := bE2.out.lt
      have hEEh : Hid (wa.heap.size = EE) := hEE
      clear hEE
      refine hK.out _ _ ⟨bT2.out.cell 0 rfl, bT2.out.cell 1 rfl⟩ (fun hHeld => ?_)
      clear hK K
      refine wpAnyH_ready (rs := [1]) (by kernel_rfl) (by simp) ?_
      refine AllReadyH.cons rfl (fun K hK => ?_) AllReadyH.nil
      go_simp
      refine (below_any (by exact hR2.out) 3 (by omega) (by omega)).mono ?_
      rintro e1 u1 ⟨v1, rfl, hv0, hv3, hru1, hgu1⟩
      have hR3 : Hid (RdAt u1 g a nn cap) := hru1
      have hgu1' : World.grownBy (World.alloc wa.drew (.cells #[.int .i64 0, .slice none 0 0, .string ⟨#[]⟩, .string ⟨#[]⟩, .slice none 0 0] 29)) u1 (some g) := ⟨hgu1.os, hgu1.tape, hgu1.output, hgu1.size, hgu1.block⟩
      have hG3 : Hid (w.grownBy u1 (some g)) := grown_on hG2.out hgu1'
      have bT3 : Hid (Box u1 w.heap.size [.string s, .slice y1 (kidsOf d).length y2] 26) := box_other bT2.out (by omega) hgu1'
      have bR3 : Hid (Box u1 (w.heap.size + 1) [.int .i64 0, .slice none 0 0, .string ⟨#[]⟩, .string ⟨#[]⟩, .slice none 0 0] 29) := box_other bR2.out (by omega) hgu1'
      have bE3 : Hid (Box u1 EE [.int .i64 0, .slice none 0 0, .string ⟨#[]⟩, .string ⟨#[]⟩, .slice none 0 0] 29) := box_other bE2.out (by omega) hgu1'
      have sz3 := hG3.out.size
      have lr3 : w.heap.size + 1 < (World.heap u1).size := bR3.out.lt
      have hw1 : IntKind.i64.wrap (1 + v1) = 1 + v1 := by rw [IntKind.wrap_i64]; omega
      have lu1 : (World.heap (World.alloc wa.drew (.cells #[.int .i64 0, .slice none 0 0, .string ⟨#[]⟩, .string ⟨#[]⟩, .slice none 0 0] 29))).size ≤ u1.heap.size := hgu1'.size
      clear hru1 hgu1 hgu1'
      have lE1 : EE < u1.heap.size := by omega
      refine hK.out _ _ ⟨bT3.out.cell 0 rfl, bT3.out.cell 1 rfl⟩ (fun hHeld => ?_)
      clear hK K
      refine tq (i := 2) (d := 10) ?_
      simp only [sz, ss]
      refine wpAnyH_ready (rs := [5]) (by kernel_rfl) (by simp) ?_
      refine AllReadyH.cons rfl (fun K hK => ?_) AllReadyH.nil
      go_simp
      refine (path_any (by exact hR3.out) (by exact hD0.out _ hG3.out)).mono ?_
      rintro e1 u2 ⟨⟨v4, p, rfl, hp0, hpl0⟩, hru2, hgu2⟩
      obtain ⟨ap, cp, rfl⟩ := hp0.form
      have hR4 : Hid (RdAt u2 g a nn cap) := hru2
      have hgu2' : World.grownBy u1 u2 (some g) := ⟨hgu2.os, hgu2.tape, hgu2.output, hgu2.size, hgu2.block⟩
      have lu2 : (World.heap u1).size ≤ u2.heap.size := hgu2'.size
      have hG4 : Hid (w.grownBy u2 (some g)) := grown_on hG3.out hgu2'
      have bT4 : Hid (Box u2 w.heap.size [.string s, .slice y1 (kidsOf d).length y2] 26) := box_other bT3.out (by omega) hgu2'
      have bR4 : Hid (Box u2 (w.heap.size + 1) [.int .i64 0, .slice none 0 0, .string ⟨#[]⟩, .string ⟨#[]⟩, .slice none 0 0] 29) := box_other bR3.out (by omega) hgu2'
      have bE4 : Hid (Box u2 EE [.int .i64 0, .slice none 0 0, .string ⟨#[]⟩, .string ⟨#[]⟩, .slice none 0 0] 29) := box_other bE3.out (by omega) hgu2'
      have sz4 := hG4.out.size
      have lr4 : w.heap.size + 1 < (World.heap u2).size := bR4.out.lt
      have hpl : Hid (p.length ≤ n + 1) := hpl0
      have hp5 : Hid (SeqAt 1 IntAt u2 (World.heap u1).size (.slice ap p.length cp) p) := hp0
      clear hp0 hpl0 hru2 hgu2 hgu2'
      refine hK.out _ _ ⟨bT4.out.cell 0 rfl, bT4.out.cell 1 rfl⟩ (fun hHeld => ?_)
      clear hK K
      refine tq (i := 6) (d := 14) ?_
      simp only [sz, ss]
      refine wpAnyH_ready (rs := [8]) (by kernel_rfl) (by simp) ?_
      refine AllReadyH.cons rfl (fun K hK => ?_) AllReadyH.nil
      have bE9 := bE4.out
      rw [← hEEh.out] at bE9
      have u0_ := bE9.cell 0 rfl
      have u1_ := bE9.cell 1 rfl
      have u2_ := bE9.cell 2 rfl
      have u3_ := bE9.cell 3 rfl
      have u4_ := bE9.cell 4 rfl
      have uf_ := bE9.unfrozen
      go_simp
      have bT9 : Hid (Box (putCells u2 wa.heap.size 0 [.int .i64 (1 + v1), .slice ap p.length cp, .string ⟨#[]⟩, .string ⟨#[]⟩, .slice none 0 0]) w.heap.size [.string s, .slice y1 (kidsOf d).length y2] 26) := (putCells_other _ _ _ _ _ (by rw [hEEh.out]; omega)).trans bT4.out
      refine hK.out _ _ ⟨bT9.out.cell 0 rfl, bT9.out.cell 1 rfl⟩ (fun hHeld => ?_)
      clear hK K
      refine wpAnyH_done (by kernel_rfl) ?_ _
      have eEE := hEEh.out
      have bEF : Box (putCells u2 wa.heap.size 0 [.int .i64 (1 + v1), .slice ap p.length cp, .string ⟨#[]⟩, .string ⟨#[]⟩, .slice none 0 0]) EE [.int .i64 (1 + v1), .slice ap p.length cp, .string ⟨#[]⟩, .string ⟨#[]⟩, .slice none 0 0] 29 := by rw [eEE]; exact ((((bE4.out.set (i := 0) _).set (i := 1) _).set (i := 2) _).set (i := 3) _).set (i := 4) _
      have bRF : Box (putCells u2 wa.heap.size 0 [.int .i64 (1 + v1), .slice ap p.length cp, .string ⟨#[]⟩, .string ⟨#[]⟩, .slice none 0 0]) (w.heap.size + 1) [.int .i64 0, .slice none 0 0, .string ⟨#[]⟩, .string ⟨#[]⟩, .slice none 0 0] 29 := (putCells_other _ _ _ _ _ (by rw [eEE]; omega)).trans bR4.out
      have hGF : w.grownBy (putCells u2 wa.heap.size 0 [.int .i64 (1 + v1), .slice ap p.length cp, .string ⟨#[]⟩, .string ⟨#[]⟩, .slice none 0 0]) (some g) := grown_puts _ hG4.out (by rw [eEE]; omega)
      have hRF : RdAt (putCells u2 wa.heap.size 0 [.int .i64 (1 + v1), .slice ap p.length cp, .string ⟨#[]⟩, .string ⟨#[]⟩, .slice none 0 0]) g a nn cap := hR4.out.keep (fun b hb => putCells_other _ _ _ _ _ (by rw [eEE]; omega))
      have hPF : Stab (SX w g EE) (putCells u2 wa.heap.size 0 [.int .i64 (1 + v1), .slice ap p.length cp, .string ⟨#[]⟩, .string ⟨#[]⟩, .slice none 0 0]) (fun W' => SeqAt 1 IntAt W' 0 (.slice ap p.length cp) p) := (seq_stab hp5.out (fun b h1 h2 h3 => by rcases h3 with h3 | h3 <;> omega)).go (by rw [putCells_size]; exact Nat.le_refl _) (fun b h1 h2 => putCells_other _ _ _ _ _ (fun e => h2 (Or.inr (by rw [e, eEE]))))
      go_wp2_with fail
      go_meet
      exact ⟨EE, _, _, _, ⟨1 + v1, p, ⟨#[]⟩, zeroT⟩, by rw [eEE], bT9, bRF, bEF, lEE, (by show InI (1 + v1); unfold InI; omega), hPF, hpl.out, Nat.zero_le _, zero_stab, hRF, hGF⟩
  case rest =>
    obtain ⟨E, v, t2, k2, e, rfl, hS0⟩ := hcut
    have hS : Hid (EdS w g a nn cap s y1 y2 d (n + 1) E v t2 k2 e wc) := hS0
    clear hG0 hG1 hR0 hR1 bT0 bT1 bR0 bR1 hS0
    have hlt5 : Hid (g < w.heap.size) := hlt
    have p0 := hS.out.bE.cell 0 rfl
    go_upto_block 0 with fail
    clear p0
    go_cut [] from 16 (fun wx => ∃ (v t2 k2 : Value) (e : EditD), EdS w g a nn cap s y1 y2 d (n + 2) E v t2 k2 e wx)
    case first =>
      have hEE := hS.out.hE
      have hwc := hS.out.hg.size
      have hElt := hS.out.bE.lt
      have hRlt := hS.out.bR.lt
      by_cases hk1 : e.vKind = 1
      · rw [hk1]
        go_wp2_with fail
        refine (drT_all 2 (by omega) (by omega) _ g a nn cap 3 hS.out.hr (by omega)).mono ?_
        rintro e1 w3 ⟨cs, x, fs, rfl, hok, hnd, hlo3, hr3, hg3⟩
        obtain ⟨t0, k0, ec, q⟩ := TreeOwn_at (lo := wc.heap.size + 1) 2 _ _ _ _ hok hlo3
        obtain ⟨⟨sx, rfl⟩, x1, x2, rfl⟩ := q.form
        subst ec
        have hz3 := hg3.size
        have hX3 : Hid (Stab (SX w g E) w3 (fun W => TreeAt W 0 4 (.string sx) (.slice x1 (kidsOf x).length x2) x)) := tree_stab (TreeAt.mono (by omega) q) (fun b h1 h2 h3 => by rcases h3 with h3 | h3 <;> omega)
        have bE3 : Hid (Box w3 E [.int .i64 e.vKind, v, .string e.vTag, t2, k2] 29) := box_other hS.out.bE (by omega) hg3
        have bR3 : Hid (Box w3 (w.heap.size + 1) [.int .i64 0, .slice none 0 0, .string ⟨#[]⟩, .string ⟨#[]⟩, .slice none 0 0] 29) := box_other hS.out.bR (by omega) hg3
        have bT3 : Hid (Box w3 w.heap.size [.string s, .slice y1 (kidsOf d).length y2] 26) := box_other hS.out.bT.out (by omega) hg3
        have hP3 : Hid (Stab (SX w g E) w3 (fun W => SeqAt 1 IntAt W 0 v e.vPath)) := hS.out.hP.grow hg3 (Or.inl (by have := hlt5.out; omega))
        have hr3h : Hid (RdAt w3 g a nn cap) := hr3
        have hG3 : Hid (w.grownBy w3 (some g)) := grown_on hS.out.hg hg3
        clear hok hnd hlo3 hr3 hg3 q
        have u0 := bE3.out.cell 0 rfl
        have u1 := bE3.out.cell 1 rfl
        have u2 := bE3.out.cell 2 rfl
        have u3 := bE3.out.cell 3 rfl
        have u4 := bE3.out.cell 4 rfl
        have uf := bE3.out.unfrozen
        have hS4 : Hid (EdS w g a nn cap s y1 y2 d (n + 1) E v (.string sx) (.slice x1 (kidsOf x).length x2) ⟨e.vKind, e.vPath, e.vTag, x⟩ (putCells w3 E 3 [.string sx, .slice x1 (kidsOf x).length x2])) :=
          ⟨(putCells_other _ _ _ _ _ (by omega)).trans bT3.out, (putCells_other _ _ _ _ _ (by omega)).trans bR3.out, (bE3.out.set (i := 3) _).set (i := 4) _, hEE, hS.out.hK, hP3.out.puts (Or.inr rfl) _, hS.out.hl, hS.out.hs, hX3.out.puts (Or.inr rfl) _, hr3h.out.keep (fun b hb => putCells_other _ _ _ _ _ (by have := hlt5.out; omega)), grown_puts _ hG3.out (by omega)⟩
        have t0 := bT3.out.cell 0 rfl
        have t1 := bT3.out.cell 1 rfl
        clear hX3 bE3 bR3 bT3 hP3 hr3h hS
        have hT4 : Hid (TreeAt (putCells w3 E 3 [.string sx, .slice x1 (kidsOf x).length x2]) lo n (.string s) (.slice y1 (kidsOf d).length y2) d) := hD0.out _ hS4.out.hg
        have hp4 : Hid (SeqAt 1 IntAt (putCells w3 E 3 [.string sx, .slice x1 (kidsOf x).length x2]) 0 v e.vPath) := hS4.out.hP.here
        go_wp2_with fail
        refine (specAt_any (by exact hT4.out) (by exact hp4.out)).mono ?_
        rintro e1 w5 ⟨⟨csA, fA, rfl, hoA, _, _⟩, hb5⟩
        have hS5 : Hid (EdS w g a nn cap s y1 y2 d (n + 1) E v (.string sx) (.slice x1 (kidsOf x).length x2) ⟨e.vKind, e.vPath, e.vTag, x⟩ w5) := hS4.out.below hb5
        have hfewA : (kidsOf (atD (okB (szD n d 30)) d e.vPath).1).length ≤ 30 := atD_few
        obtain ⟨kA, rfl, sA, _⟩ := hoA.opened
        obtain ⟨aA, cA, rfl⟩ := sA.form
        generalize (kidsOf (atD (okB (szD n d 30)) d e.vPath).1).length = nA at hfewA
        generalize strT (atD (okB (szD n d 30)) d e.vPath).1 = tA
        clear hoA sA hb5 hS4 hT4 hp4 t0 t1 u0 u1 u2 u3 u4 uf hG3
        have hS6 : Hid (EdS w g a nn cap s y1 y2 d (n + 1) E v (.string sx) (.slice x1 (kidsOf x).length x2) ⟨e.vKind, e.vPath, e.vTag, x⟩ (w5.alloc (.cells #[.string tA, .slice aA nA cA] 26))) := hS5.out.below ((Below.refl _ _).alloc (Nat.le_refl _) _)
        have bA6 : Hid (Box (w5.alloc (.cells #[.string tA, .slice aA nA cA] 26)) w5.heap.size [.string tA, .slice aA nA cA] 26) := Box.new w5 _ _
        have hEA : E < w5.heap.size := hS5.out.bE.lt
        have hRA : (w.heap.size + 1) < w5.heap.size := hS5.out.bR.lt
        clear hS5
        go_upto_region 6 with fail
        generalize (w5.alloc (.cells #[.string tA, .slice aA nA cA] 26)) = wb at hS6 bA6 ⊢
        generalize w5.heap.size = A6 at bA6 hEA hRA ⊢
        have hA6lt := bA6.out.lt
        obtain ⟨iI, hiI0, heI0, heI1, heI2⟩ := info_parts2 infoI
        have hiI : Hid (Try.prog.info? 2 = some iI) := hiI0
        have heI : Hid (iI.zero = some (.int .i64 0) ∧ iI.size = 1 ∧ iI.bytes = 8) := ⟨heI0, heI1, heI2⟩
        clear hiI0 heI0 heI1 heI2
        obtain ⟨pv, cv, rfl⟩ := hS6.out.hP.here.form
        have hl6 : Hid (e.vPath.length ≤ n + 1) := hS6.out.hl
        have hSd : Hid (EdS w g a nn cap s y1 y2 d (n + 1) E (.slice pv e.vPath.length cv) (.string sx) (.slice x1 (kidsOf x).length x2) ⟨e.vKind, e.vPath, e.vTag, x⟩ wb.drew) := hS6.out.below (Below.drew (Below.refl _ _))
        refine wp_region_held_drew (S := fun w' => w'.cell? ⟨A6, 1, none⟩ = some (.slice aA nA cA)) (by kernel_rfl) (bA6.out.cell 1 rfl) (fun hHeld => ?_)
        refine tq (i := 1) (d := 30) ?_
        simp only [sz, ss]
        refine tq (i := 4) (d := 33) ?_
        simp only [sz, ss]
        refine tq (i := 5) (d := 34) ?_
        simp only [sz, ss]
        refine tq (i := 6) (d := 35) ?_
        simp only [sz, ss]
        refine tq (i := 7) (d := 36) ?_
        simp only [sz, ss]
        refine tq (i := 8) (d := 37) ?_
        simp only [sz, ss]
        refine wpAnyH_ready (rs := [0, 2]) (by kernel_rfl) (by simp) ?_
        refine (AllReadyH.cons rfl (fun K hK => ?_) (AllReadyH.cons rfl (fun K hK => ?_) AllReadyH.nil))
        · go_simp
          have hb7 : Hid (Below wb.heap.size wb (World.alloc wb.drew (.cells #[] 2))) := Below.alloc (Below.drew (Below.refl wb.heap.size wb)) (Below.size (Below.drew (Below.refl wb.heap.size wb))) _
          have row1 : Hid (World.ownsRow (World.alloc wb.drew (.cells #[] 2)) wb.heap.size 2 1 (.slice (some ⟨wb.heap.size, 0, none⟩) 0 0) 0 []) := row_start (w := wb.drew) (B := wb.heap.size) (Nat.le_refl _)
          have hS7 : Hid (EdS w g a nn cap s y1 y2 d (n + 1) E (.slice pv e.vPath.length cv) (.string sx) (.slice x1 (kidsOf x).length x2) ⟨e.vKind, e.vPath, e.vTag, x⟩ (World.alloc wb.drew (.cells #[] 2))) := hS6.out.below hb7.out
          have bA7 : Hid (Box (World.alloc wb.drew (.cells #[] 2)) A6 [.string tA, .slice aA nA cA] 26) := bA6.out.below hb7.out hA6lt
          refine hK.out _ _ (bA7.out.cell 1 rfl) (fun hHeld => ?_)
          clear hK K
          refine wpAnyH_ready (rs := [2]) (by kernel_rfl) (by simp) ?_
          refine AllReadyH.cons rfl (fun K hK => ?_) AllReadyH.nil
          have pE : (wb.alloc (.cells #[] 2)).cell? ⟨E, 1, none⟩ = some (.slice pv e.vPath.length cv) := (hS6.out.below ((Below.refl _ wb).alloc (Nat.le_refl _) _)).bE.cell 1 rfl
          go_simp
          refine hK.out _ _ (bA7.out.cell 1 rfl) (fun hHeld => ?_)
          clear hK K
          refine wpAnyH_ready (rs := [3]) (by kernel_rfl) (by simp) ?_
          refine AllReadyH.cons rfl (fun K hK => ?_) AllReadyH.nil
          refine step_append_ints (w := (World.alloc wb.drew (.cells #[] 2))) rfl _ _ 27 rfl wb.heap.size 0 2 iI Try.underlying27 hiI.out heI.out.1 heI.out.2.1 heI.out.2.2 (.slice (some ⟨wb.heap.size, 0, none⟩) 0 0) 0 [] rfl (by simp) (by exact row1.out) (.slice pv e.vPath.length cv) e.vPath rfl (by exact hS7.out.hP.here) (by have := hl6.out; omega) (by exact Below.size hb7.out) ?_
          intro vq wq hownq hgrowq hnnq
          have rowq : Hid (wq.ownsRow wb.heap.size 2 1 vq e.vPath.length (e.vPath.map fun n => Value.int .i64 n)) := by show World.ownsRow _ _ _ _ _ _ _; have := hownq; rw [Nat.zero_add, List.nil_append] at this; exact this
          obtain ⟨gq, cq, rfl⟩ := nonnil_row rowq.out hnnq
          have hbq : Hid (Below wb.heap.size wb wq) := Below.grown hb7.out hgrowq (Below.size hb7.out) (fun k e => own_block2 row1.out k e)
          have hSq : Hid (EdS w g a nn cap s y1 y2 d (n + 1) E (.slice pv e.vPath.length cv) (.string sx) (.slice x1 (kidsOf x).length x2) ⟨e.vKind, e.vPath, e.vTag, x⟩ wq) := hS6.out.below hbq.out
          have bAq : Hid (Box wq A6 [.string tA, .slice aA nA cA] 26) := bA6.out.below hbq.out hA6lt
          have szq := hbq.out.size
          clear hownq hgrowq hnnq row1 hS7 bA7
          go_simp
          refine hK.out _ _ (bAq.out.cell 1 rfl) (fun hHeld => ?_)
          clear hK K
          refine wpAnyH_ready (rs := [9]) (by kernel_rfl) (by simp) ?_
          refine AllReadyH.cons rfl (fun K hK => ?_) AllReadyH.nil
          have hwn : IntKind.i64.wrap ((nA : Int) + 1) = (nA : Int) + 1 := by rw [IntKind.wrap_i64]; omega
          go_simp
          refine (below_any (by exact hSq.out.hr) ((nA : Int) + 1) (by omega) (by omega)).mono ?_
          rintro e1 w9 ⟨v9, rfl, h90, h9l, hr9, hg9⟩
          have hS9 : Hid (EdS w g a nn cap s y1 y2 d (n + 1) E (.slice pv e.vPath.length cv) (.string sx) (.slice x1 (kidsOf x).length x2) ⟨e.vKind, e.vPath, e.vTag, x⟩ w9) := hSq.out.grow hlt5.out hr9 hg9
          have bA9 : Hid (Box w9 A6 [.string tA, .slice aA nA cA] 26) := box_other bAq.out (by have := hlt5.out; omega) hg9
          have row9 : Hid (w9.ownsRow wb.heap.size 2 1 (.slice (some ⟨gq, 0, none⟩) e.vPath.length cq) e.vPath.length (e.vPath.map fun n => Value.int .i64 n)) := row_grownD rowq.out hg9 (by have := hlt5.out; omega)
          have sz9 := hg9.size
          have hG9 : Hid (wb.grownBy w9 (some g)) := grown_on (grown_of_below hbq.out _) hg9
          clear hr9 hg9 hwn
          refine hK.out _ _ (bA9.out.cell 1 rfl) (fun hHeld => ?_)
          clear hK K
          refine wpAnyH_ready (rs := [10]) (by kernel_rfl) (by simp) ?_
          refine AllReadyH.cons rfl (fun K hK => ?_) AllReadyH.nil
          go_simp
          have hS10 : Hid (EdS w g a nn cap s y1 y2 d (n + 1) E (.slice pv e.vPath.length cv) (.string sx) (.slice x1 (kidsOf x).length x2) ⟨e.vKind, e.vPath, e.vTag, x⟩ (World.alloc w9 (.cells #[.int .i64 v9] 2))) := hS9.out.below ((Below.refl _ w9).alloc (Nat.le_refl _) _)
          have bA10 : Hid (Box (World.alloc w9 (.cells #[.int .i64 v9] 2)) A6 [.string tA, .slice aA nA cA] 26) := bA9.out.alloc _
          have row10 : Hid (World.ownsRow (World.alloc w9 (.cells #[.int .i64 v9] 2)) wb.heap.size 2 1 (.slice (some ⟨gq, 0, none⟩) e.vPath.length cq) e.vPath.length (e.vPath.map fun n => Value.int .i64 n)) := row_below row9.out ((Below.refl _ w9).alloc (Nat.le_refl _) _)
          have hx10 : Hid (SeqAt 1 IntAt (World.alloc w9 (.cells #[.int .i64 v9] 2)) 0 (.slice (some ⟨w9.heap.size, 0, none⟩) 1 1) [v9]) := box1_at (Box.new w9 [.int .i64 v9] 2) (by unfold InI; omega)
          refine hK.out _ _ (bA10.out.cell 1 rfl) (fun hHeld => ?_)
          clear hK K
          refine wpAnyH_ready (rs := [11]) (by kernel_rfl) (by simp) ?_
          refine AllReadyH.cons rfl (fun K hK => ?_) AllReadyH.nil
          refine step_append_ints (w := (World.alloc w9 (.cells #[.int .i64 v9] 2))) rfl _ _ 27 rfl wb.heap.size 0 2 iI Try.underlying27 hiI.out heI.out.1 heI.out.2.1 heI.out.2.2 (.slice (some ⟨gq, 0, none⟩) e.vPath.length cq) e.vPath.length (e.vPath.map fun n => Value.int .i64 n) rfl (by simp) (by exact row10.out) (.slice (some ⟨w9.heap.size, 0, none⟩) 1 1) [v9] rfl (by exact hx10.out) (by have := hl6.out; simp; omega) (by simp only [World.size_alloc]; omega) ?_
          intro v11 w11 hown11 hgrow11 hnn11
          obtain ⟨p11, hp11⟩ : ∃ p11, e.vPath ++ [v9] = p11 := ⟨_, rfl⟩
          have row11 : w11.ownsRow wb.heap.size 2 1 v11 p11.length (p11.map fun n => Value.int .i64 n) := by rw [← hp11]; show World.ownsRow _ _ _ _ _ _ _; rw [List.length_append, List.map_append]; exact hown11
          have hl11 : Hid (p11.length ≤ n + 2) := by have := hl6.out; rw [← hp11, List.length_append, List.length_singleton]; show _ ≤ _; omega
          have hb11 : Hid (Below wb.heap.size w9 w11) := ((Below.refl wb.heap.size w9).alloc (by omega) _).grown hgrow11 (by simp only [World.size_alloc]; omega) (fun k e => own_block2 row10.out k e)
          have hS11 : Hid (EdS w g a nn cap s y1 y2 d (n + 1) E (.slice pv e.vPath.length cv) (.string sx) (.slice x1 (kidsOf x).length x2) ⟨e.vKind, e.vPath, e.vTag, x⟩ w11) := hS6.out.grow hlt5.out (hS9.out.hr.keep (fun b hb => hb11.out.block b (by have := hlt5.out; omega))) (grown_belowB hG9.out hb11.out)
          have bA11 : Hid (Box w11 A6 [.string tA, .slice aA nA cA] 26) := (hgrow11.block A6 bA10.out.lt (fun e => by have := own_block2 row10.out _ e.symm; omega)).trans bA10.out
          obtain ⟨f11, o11, l11⟩ := seqOwn_of_row row11 (by rw [← hp11]; intro z hz; rcases List.mem_append.1 hz with q | q; (exact seqAt_inID hS9.out.hP.here z q); (rw [List.mem_singleton] at q; subst q; unfold InI; omega))
          obtain ⟨a11, c11, rfl⟩ := o11.form
          have hP11 : Hid (Stab (SX w g E) w11 (fun W => SeqAt 1 IntAt W 0 (.slice a11 p11.length c11) p11)) := seq_stab (o11.at (lo := wb.heap.size) intOwn_at l11) (fun b h1 h2 h3 => by have := hlt5.out; rcases h3 with h3 | h3 <;> omega)
          clear hown11 hgrow11 hnn11 row11 o11 l11 hb11 hp11 hx10 row10
          go_simp
          refine hK.out _ _ (bA11.out.cell 1 rfl) (fun hHeld => ?_)
          clear hK K
          refine tq (i := 12) (d := 41) ?_
          simp only [sz, ss]
          refine wpAnyH_ready (rs := [13]) (by kernel_rfl) (by simp) ?_
          refine AllReadyH.cons rfl (fun K hK => ?_) AllReadyH.nil
          have u0 := hS11.out.bE.cell 1 rfl
          have uf := hS11.out.bE.unfrozen
          have hS13 : Hid (EdS w g a nn cap s y1 y2 d (n + 2) E (.slice a11 p11.length c11) (.string sx) (.slice x1 (kidsOf x).length x2) ⟨e.vKind, p11, e.vTag, x⟩ (w11.setCell ⟨E, 1, none⟩ (.slice a11 p11.length c11))) := hS11.out.turn hlt5.out (hS11.out.bE.set (i := 1) _) hS11.out.hK hP11.out hl11.out hS11.out.hs rfl
          have bA13 : Hid (Box (w11.setCell ⟨E, 1, none⟩ (.slice a11 p11.length c11)) A6 [.string tA, .slice aA nA cA] 26) := (set_other (by omega) _).trans bA11.out
          go_simp
          refine hK.out _ _ (bA13.out.cell 1 rfl) (fun hHeld => ?_)
          clear hK K
          refine wpAnyH_done (by kernel_rfl) ?_ _
          go_wp2_with fail
          go_meet
          exact ⟨_, _, _, _, hS13.out⟩
        · have pE := hSd.out.bE.cell 1 rfl
          go_simp
          refine hK.out _ _ ((bA6.out.below (Below.drew (Below.refl _ _)) hA6lt).cell 1 rfl) (fun hHeld => ?_)
          clear hK K
          refine wpAnyH_ready (rs := [0]) (by kernel_rfl) (by simp) ?_
          refine AllReadyH.cons rfl (fun K hK => ?_) AllReadyH.nil
          go_simp
          have hb7 : Hid (Below wb.heap.size wb (World.alloc wb.drew (.cells #[] 2))) := Below.alloc (Below.drew (Below.refl wb.heap.size wb)) (Below.size (Below.drew (Below.refl wb.heap.size wb))) _
          have row1 : Hid (World.ownsRow (World.alloc wb.drew (.cells #[] 2)) wb.heap.size 2 1 (.slice (some ⟨wb.heap.size, 0, none⟩) 0 0) 0 []) := row_start (w := wb.drew) (B := wb.heap.size) (Nat.le_refl _)
          have hS7 : Hid (EdS w g a nn cap s y1 y2 d (n + 1) E (.slice pv e.vPath.length cv) (.string sx) (.slice x1 (kidsOf x).length x2) ⟨e.vKind, e.vPath, e.vTag, x⟩ (World.alloc wb.drew (.cells #[] 2))) := hS6.out.below hb7.out
          have bA7 : Hid (Box (World.alloc wb.drew (.cells #[] 2)) A6 [.string tA, .slice aA nA cA] 26) := bA6.out.below hb7.out hA6lt
          refine hK.out _ _ (bA7.out.cell 1 rfl) (fun hHeld => ?_)
          clear hK K
          refine wpAnyH_ready (rs := [3]) (by kernel_rfl) (by simp) ?_
          refine AllReadyH.cons rfl (fun K hK => ?_) AllReadyH.nil
          refine step_append_ints (w := (World.alloc wb.drew (.cells #[] 2))) rfl _ _ 27 rfl wb.heap.size 0 2 iI Try.underlying27 hiI.out heI.out.1 heI.out.2.1 heI.out.2.2 (.slice (some ⟨wb.heap.size, 0, none⟩) 0 0) 0 [] rfl (by simp) (by exact row1.out) (.slice pv e.vPath.length cv) e.vPath rfl (by exact hS7.out.hP.here) (by have := hl6.out; omega) (by exact Below.size hb7.out) ?_
          intro vq wq hownq hgrowq hnnq
          have rowq : Hid (wq.ownsRow wb.heap.size 2 1 vq e.vPath.length (e.vPath.map fun n => Value.int .i64 n)) := by show World.ownsRow _ _ _ _ _ _ _; have := hownq; rw [Nat.zero_add, List.nil_append] at this; exact this
          obtain ⟨gq, cq, rfl⟩ := nonnil_row rowq.out hnnq
          have hbq : Hid (Below wb.heap.size wb wq) := Below.grown hb7.out hgrowq (Below.size hb7.out) (fun k e => own_block2 row1.out k e)
          have hSq : Hid (EdS w g a nn cap s y1 y2 d (n + 1) E (.slice pv e.vPath.length cv) (.string sx) (.slice x1 (kidsOf x).length x2) ⟨e.vKind, e.vPath, e.vTag, x⟩ wq) := hS6.out.below hbq.out
          have bAq : Hid (Box wq A6 [.string tA, .slice aA nA cA] 26) := bA6.out.below hbq.out hA6lt
          have szq := hbq.out.size
          clear hownq hgrowq hnnq row1 hS7 bA7
          go_simp
          refine hK.out _ _ (bAq.out.cell 1 rfl) (fun hHeld => ?_)
          clear hK K
          refine wpAnyH_ready (rs := [9]) (by kernel_rfl) (by simp) ?_
          refine AllReadyH.cons rfl (fun K hK => ?_) AllReadyH.nil
          have hwn : IntKind.i64.wrap ((nA : Int) + 1) = (nA : Int) + 1 := by rw [IntKind.wrap_i64]; omega
          go_simp
          refine (below_any (by exact hSq.out.hr) ((nA : Int) + 1) (by omega) (by omega)).mono ?_
          rintro e1 w9 ⟨v9, rfl, h90, h9l, hr9, hg9⟩
          have hS9 : Hid (EdS w g a nn cap s y1 y2 d (n + 1) E (.slice pv e.vPath.length cv) (.string sx) (.slice x1 (kidsOf x).length x2) ⟨e.vKind, e.vPath, e.vTag, x⟩ w9) := hSq.out.grow hlt5.out hr9 hg9
          have bA9 : Hid (Box w9 A6 [.string tA, .slice aA nA cA] 26) := box_other bAq.out (by have := hlt5.out; omega) hg9
          have row9 : Hid (w9.ownsRow wb.heap.size 2 1 (.slice (some ⟨gq, 0, none⟩) e.vPath.length cq) e.vPath.length (e.vPath.map fun n => Value.int .i64 n)) := row_grownD rowq.out hg9 (by have := hlt5.out; omega)
          have sz9 := hg9.size
          have hG9 : Hid (wb.grownBy w9 (some g)) := grown_on (grown_of_below hbq.out _) hg9
          clear hr9 hg9 hwn
          refine hK.out _ _ (bA9.out.cell 1 rfl) (fun hHeld => ?_)
          clear hK K
          refine wpAnyH_ready (rs := [10]) (by kernel_rfl) (by simp) ?_
          refine AllReadyH.cons rfl (fun K hK => ?_) AllReadyH.nil
          go_simp
          have hS10 : Hid (EdS w g a nn cap s y1 y2 d (n + 1) E (.slice pv e.vPath.length cv) (.string sx) (.slice x1 (kidsOf x).length x2) ⟨e.vKind, e.vPath, e.vTag, x⟩ (World.alloc w9 (.cells #[.int .i64 v9] 2))) := hS9.out.below ((Below.refl _ w9).alloc (Nat.le_refl _) _)
          have bA10 : Hid (Box (World.alloc w9 (.cells #[.int .i64 v9] 2)) A6 [.string tA, .slice aA nA cA] 26) := bA9.out.alloc _
          have row10 : Hid (World.ownsRow (World.alloc w9 (.cells #[.int .i64 v9] 2)) wb.heap.size 2 1 (.slice (some ⟨gq, 0, none⟩) e.vPath.length cq) e.vPath.length (e.vPath.map fun n => Value.int .i64 n)) := row_below row9.out ((Below.refl _ w9).alloc (Nat.le_refl _) _)
          have hx10 : Hid (SeqAt 1 IntAt (World.alloc w9 (.cells #[.int .i64 v9] 2)) 0 (.slice (some ⟨w9.heap.size, 0, none⟩) 1 1) [v9]) := box1_at (Box.new w9 [.int .i64 v9] 2) (by unfold InI; omega)
          refine hK.out _ _ (bA10.out.cell 1 rfl) (fun hHeld => ?_)
          clear hK K
          refine wpAnyH_ready (rs := [11]) (by kernel_rfl) (by simp) ?_
          refine AllReadyH.cons rfl (fun K hK => ?_) AllReadyH.nil
          refine step_append_ints (w := (World.alloc w9 (.cells #[.int .i64 v9] 2))) rfl _ _ 27 rfl wb.heap.size 0 2 iI Try.underlying27 hiI.out heI.out.1 heI.out.2.1 heI.out.2.2 (.slice (some ⟨gq, 0, none⟩) e.vPath.length cq) e.vPath.length (e.vPath.map fun n => Value.int .i64 n) rfl (by simp) (by exact row10.out) (.slice (some ⟨w9.heap.size, 0, none⟩) 1 1) [v9] rfl (by exact hx10.out) (by have := hl6.out; simp; omega) (by simp only [World.size_alloc]; omega) ?_
          intro v11 w11 hown11 hgrow11 hnn11
          obtain ⟨p11, hp11⟩ : ∃ p11, e.vPath ++ [v9] = p11 := ⟨_, rfl⟩
          have row11 : w11.ownsRow wb.heap.size 2 1 v11 p11.length (p11.map fun n => Value.int .i64 n) := by rw [← hp11]; show World.ownsRow _ _ _ _ _ _ _; rw [List.length_append, List.map_append]; exact hown11
          have hl11 : Hid (p11.length ≤ n + 2) := by have := hl6.out; rw [← hp11, List.length_append, List.length_singleton]; show _ ≤ _; omega
          have hb11 : Hid (Below wb.heap.size w9 w11) := ((Below.refl wb.heap.size w9).alloc (by omega) _).grown hgrow11 (by simp only [World.size_alloc]; omega) (fun k e => own_block2 row10.out k e)
          have hS11 : Hid (EdS w g a nn cap s y1 y2 d (n + 1) E (.slice pv e.vPath.length cv) (.string sx) (.slice x1 (kidsOf x).length x2) ⟨e.vKind, e.vPath, e.vTag, x⟩ w11) := hS6.out.grow hlt5.out (hS9.out.hr.keep (fun b hb => hb11.out.block b (by have := hlt5.out; omega))) (grown_belowB hG9.out hb11.out)
          have bA11 : Hid (Box w11 A6 [.string tA, .slice aA nA cA] 26) := (hgrow11.block A6 bA10.out.lt (fun e => by have := own_block2 row10.out _ e.symm; omega)).trans bA10.out
          obtain ⟨f11, o11, l11⟩ := seqOwn_of_row row11 (by rw [← hp11]; intro z hz; rcases List.mem_append.1 hz with q | q; (exact seqAt_inID hS9.out.hP.here z q); (rw [List.mem_singleton] at q; subst q; unfold InI; omega))
          obtain ⟨a11, c11, rfl⟩ := o11.form
          have hP11 : Hid (Stab (SX w g E) w11 (fun W => SeqAt 1 IntAt W 0 (.slice a11 p11.length c11) p11)) := seq_stab (o11.at (lo := wb.heap.size) intOwn_at l11) (fun b h1 h2 h3 => by have := hlt5.out; rcases h3 with h3 | h3 <;> omega)
          clear hown11 hgrow11 hnn11 row11 o11 l11 hb11 hp11 hx10 row10
          go_simp
          refine hK.out _ _ (bA11.out.cell 1 rfl) (fun hHeld => ?_)
          clear hK K
          refine tq (i := 12) (d := 41) ?_
          simp only [sz, ss]
          refine wpAnyH_ready (rs := [13]) (by kernel_rfl) (by simp) ?_
          refine AllReadyH.cons rfl (fun K hK => ?_) AllReadyH.nil
          have u0 := hS11.out.bE.cell 1 rfl
          have uf := hS11.out.bE.unfrozen
          have hS13 : Hid (EdS w g a nn cap s y1 y2 d (n + 2) E (.slice a11 p11.length c11) (.string sx) (.slice x1 (kidsOf x).length x2) ⟨e.vKind, p11, e.vTag, x⟩ (w11.setCell ⟨E, 1, none⟩ (.slice a11 p11.length c11))) := hS11.out.turn hlt5.out (hS11.out.bE.set (i := 1) _) hS11.out.hK hP11.out hl11.out hS11.out.hs rfl
          have bA13 : Hid (Box (w11.setCell ⟨E, 1, none⟩ (.slice a11 p11.length c11)) A6 [.string tA, .slice aA nA cA] 26) := (set_other (by omega) _).trans bA11.out
          go_simp
          refine hK.out _ _ (bA13.out.cell 1 rfl) (fun hHeld => ?_)
          clear hK K
          refine wpAnyH_done (by kernel_rfl) ?_ _
          go_wp2_with fail
          go_meet
          exact ⟨_, _, _, _, hS13.out⟩
      · by_cases hk3 : e.vKind = 3
        · rw [hk3]
          have u2 := hS.out.bE.cell 2 rfl
          have uf := hS.out.bE.unfrozen
          have hd1 : decide ((3 : Int) = 1) = false := by decide
          have hb8 : Hid (Below wc.heap.size wc (wc.alloc (.cells #[.string ⟨#[97]⟩, .string ⟨#[100, 105, 118]⟩, .string ⟨#[108, 105]⟩] 9))) := (Below.refl _ _).alloc (Nat.le_refl _) _
          have hS8 : Hid (EdS w g a nn cap s y1 y2 d (n + 1) E v t2 k2 e (wc.alloc (.cells #[.string ⟨#[97]⟩, .string ⟨#[100, 105, 118]⟩, .string ⟨#[108, 105]⟩] 9))) := hS.out.below hb8.out
          have bB8 : Hid (Box (wc.alloc (.cells #[.string ⟨#[97]⟩, .string ⟨#[100, 105, 118]⟩, .string ⟨#[108, 105]⟩] 9)) wc.heap.size [.string ⟨#[97]⟩, .string ⟨#[100, 105, 118]⟩, .string ⟨#[108, 105]⟩] 9) := Box.new wc _ _
          clear u2 uf
          go_wp2_with fail
          refine (below_any (by exact hS8.out.hr) 3 (by omega) (by omega)).mono ?_
          rintro e1 w9 ⟨v9, rfl, h90, h93, hr9, hg9⟩
          have hS9 : Hid (EdS w g a nn cap s y1 y2 d (n + 1) E v t2 k2 e w9) := hS8.out.grow hlt5.out hr9 hg9
          have bB9 : Hid (Box w9 wc.heap.size [.string ⟨#[97]⟩, .string ⟨#[100, 105, 118]⟩, .string ⟨#[108, 105]⟩] 9) := box_other bB8.out (by have := hlt5.out; omega) hg9
          clear hr9 hg9 hS8 bB8 hb8
          have u2 := hS9.out.bE.cell 2 rfl
          have uf := hS9.out.bE.unfrozen
          have b0 := bB9.out.cell 0 rfl
          have b1 := bB9.out.cell 1 rfl
          have b2 := bB9.out.cell 2 rfl
          have key : ∀ tg : ByteArray, tg.size ≤ maxLen → Hid (EdS w g a nn cap s y1 y2 d (n + 2) E v t2 k2 ⟨e.vKind, e.vPath, tg, e.vTree⟩ (w9.setCell ⟨E, 2, none⟩ (.string tg))) := fun tg htg => hS9.out.turn hlt5.out (hS9.out.bE.set (i := 2) _) hS9.out.hK hS9.out.hP (Nat.le_succ_of_le hS9.out.hl) htg rfl
          obtain rfl | rfl | rfl : v9 = 0 ∨ v9 = 1 ∨ v9 = 2 := by omega
          · go_wp2_with fail
            go_meet
            exact ⟨_, _, _, _, (key _ (by decide)).out⟩
          · go_wp2_with fail
            go_meet
            exact ⟨_, _, _, _, (key _ (by decide)).out⟩
          · go_wp2_with fail
            go_meet
            exact ⟨_, _, _, _, (key _ (by decide)).out⟩
        · have hd1 : decide (e.vKind = 1) = false := by simpa using hk1
          have hd3 : decide (e.vKind = 3) = false := by simpa using hk3
          go_wp2_with fail
          go_meet
          exact ⟨v, t2, k2, e, hS.out.more (by omega)⟩
    case rest =>
      obtain ⟨v, t2, k2, e, hS1⟩ := hcut
      have hS2 : Hid (EdS w g a nn cap s y1 y2 d (n + 2) E v t2 k2 e wc) := hS1
      clear hS hS1
      go_wp2_with fail
      refine (once_any (by exact hS2.out.hr) 30 (by omega) (by omega)).mono ?_
      rintro e1 w3 ⟨b3, rfl, hr3, hg3⟩
      have hS3 : Hid (EdS w g a nn cap s y1 y2 d (n + 2) E v t2 k2 e w3) := hS2.out.grow hlt5.out hr3 hg3
      clear hr3 hg3 hS2
      go_upto_if 51 with fail
      go_cut [] from 8 (fun wx => ∃ (e : EditD), EdS w g a nn cap s y1 y2 d (n + 2) E v t2 k2 e wx)
      case first =>
        rcases (by cases b3 <;> simp : b3 = false ∨ b3 = true) with hb | hb
        · rw [hb]
          go_wp2_with fail
          go_meet
          exact ⟨e, hS3.out⟩
        · rw [hb]
          go_wp2_with fail
          refine (off_any (by exact hS3.out.hr) 1 3 (by omega) (by omega) (by omega) (by omega)).mono ?_
          rintro e1 w4 ⟨v4, rfl, hv4, hr4, hg4⟩
          have hS4 : Hid (EdS w g a nn cap s y1 y2 d (n + 2) E v t2 k2 e w4) := hS3.out.grow hlt5.out hr4 hg4
          clear hr4 hg4
          have u0 := hS4.out.bE.cell 0 rfl
          have uf := hS4.out.bE.unfrozen
          go_wp2_with fail
          go_meet
          exact ⟨_, hS4.out.turn (e' := ⟨v4, e.vPath, e.vTag, e.vTree⟩) hlt5.out (hS4.out.bE.set (i := 0) _) hv4 hS4.out.hP hS4.out.hl hS4.out.hs rfl⟩
      case rest =>
        obtain ⟨e, hS1⟩ := hcut
        have hS5 : Hid (EdS w g a nn cap s y1 y2 d (n + 2) E v t2 k2 e wc) := hS1
        clear hS1 hS3
        obtain ⟨ap, cp, rfl⟩ := hS5.out.hP.here.form
        obtain ⟨⟨sx, rfl⟩, x1, x2, rfl⟩ := hS5.out.hX.here.form
        have u0 := hS5.out.bE.cell 0 rfl
        have u1 := hS5.out.bE.cell 1 rfl
        have u2 := hS5.out.bE.cell 2 rfl
        have u3 := hS5.out.bE.cell 3 rfl
        have u4 := hS5.out.bE.cell 4 rfl
        have r0 := hS5.out.bR.cell 0 rfl
        have r1 := hS5.out.bR.cell 1 rfl
        have r2 := hS5.out.bR.cell 2 rfl
        have r3 := hS5.out.bR.cell 3 rfl
        have r4 := hS5.out.bR.cell 4 rfl
        have rf := hS5.out.bR.unfrozen
        go_wp2_with fail
        have z := (((((hS5.out.bR.set (i := 0) (.int .i64 e.vKind)).set (i := 1) (.slice ap e.vPath.length cp)).set (i := 2) (.string e.vTag)).set (i := 3) (.string sx)).set (i := 4) (.slice x1 (kidsOf e.vTree).length x2))
        have z0 := z.cell 0 rfl
        have z1 := z.cell 1 rfl
        have z2 := z.cell 2 rfl
        have z3 := z.cell 3 rfl
        have z4 := z.cell 4 rfl
        refine bodyPost_ret (v := .agg #[.int .i64 e.vKind, .slice ap e.vPath.length cp, .string e.vTag, .string sx, .slice x1 (kidsOf e.vTree).length x2]) (by simp [results, Try.results43, go_sem, z0, z1, z2, z3, z4]) rfl ?_
        have hlt6 := hlt5.out
        have hw := hS5.out.hg.size
        exact ⟨⟨[.int .i64 e.vKind, .slice ap e.vPath.length cp, .string e.vTag, .string sx, .slice x1 (kidsOf e.vTree).length x2], e, rfl, fun W h1 h2 => ⟨_, _, _, rfl, hS5.out.hK, ((hS5.out.hP.puts (Or.inl (by omega)) [.int .i64 e.vKind, .slice ap e.vPath.length cp, .string e.vTag, .string sx, .slice x1 (kidsOf e.vTree).length x2]).less (fun b q => Or.inl (by omega))) W h1 h2, hS5.out.hs, ((hS5.out.hX.puts (Or.inl (by omega)) [.int .i64 e.vKind, .slice ap e.vPath.length cp, .string e.vTag, .string sx, .slice x1 (kidsOf e.vTree).length x2]).less (fun b q => Or.inl (by omega))) W h1 h2⟩, hS5.out.hl⟩, hS5.out.hr.keep (fun b hb => putCells_other [.int .i64 e.vKind, .slice ap e.vPath.length cp, .string e.vTag, .string sx, .slice x1 (kidsOf e.vTree).length x2] _ _ _ _ (by omega)), grown_puts [.int .i64 e.vKind, .slice ap e.vPath.length cp, .string e.vTag, .string sx, .slice x1 (kidsOf e.vTree).length x2] hS5.out.hg (by omega)⟩
end Go.Proofs.Ytndffcogddefiaa
namespace Go.Proofs.Ytndffcogddefiaa
open Go.RowKit Go.Deep
/-- a tree and an edit, drawn: all their memory is from lo on -/
def DrawnE (lo : Nat) (w : World) (e : Ending) : Prop := ∃ (t k : Value) (cs : List Value) (x : TD) (y : EditD), e = .returned (.tuple #[.agg #[t, k], .agg cs.toArray]) ∧ Stab (fun b => b < lo) w (fun W => TreeAt W 0 4 t k x ∧ EditAt 4 W 0 cs y) ∧ y.vPath.length ≤ 6
theorem Stab.both {S : Nat → Prop} {wx : World} {Q R : World → Prop} (h : Stab S wx Q) (q : Stab S wx R) : Stab S wx (fun W => Q W ∧ R W) := fun W h1 h2 => ⟨h W h1 h2, q W h1 h2⟩
set_option maxRecDepth 100000 in
set_option maxHeartbeats 4000000 in
theorem drawEditOk_any {w : World} {a : Option Addr} {n cap : Nat} (h : CodeAt w a n) :
    Calls Try.prog 27 #[.slice a n cap] w fun e w' => DrawnE w.heap.size w' e ∧ Below w.heap.size w w' := by
  have h' : Hid (CodeAt w a n) := h
  clear h
  have hb0 : Hid (Below w.heap.size w ((w.alloc (.cells #[.string ⟨#[]⟩, .slice none 0 0] 26)).alloc (.cells #[.int .i64 0, .slice none 0 0, .string ⟨#[]⟩, .string ⟨#[]⟩, .slice none 0 0] 29))) := ((Below.refl _ _).alloc (Nat.le_refl _) _).alloc (by simp) _
  have bR0 : Hid (Box ((w.alloc (.cells #[.string ⟨#[]⟩, .slice none 0 0] 26)).alloc (.cells #[.int .i64 0, .slice none 0 0, .string ⟨#[]⟩, .string ⟨#[]⟩, .slice none 0 0] 29)) w.heap.size [.string ⟨#[]⟩, .slice none 0 0] 26) := (Box.new w [.string ⟨#[]⟩, .slice none 0 0] 26).alloc _
  have bS0 : Hid (Box ((w.alloc (.cells #[.string ⟨#[]⟩, .slice none 0 0] 26)).alloc (.cells #[.int .i64 0, .slice none 0 0, .string ⟨#[]⟩, .string ⟨#[]⟩, .slice none 0 0] 29)) (w.heap.size + 1) [.int .i64 0, .slice none 0 0, .string ⟨#[]⟩, .string ⟨#[]⟩, .slice none 0 0] 29) := by have q := Box.new (w.alloc (.cells #[.string ⟨#[]⟩, .slice none 0 0] 26)) [.int .i64 0, .slice none 0 0, .string ⟨#[]⟩, .string ⟨#[]⟩, .slice none 0 0] 29; rw [World.size_alloc] at q; exact q
  go_enter Try.func27, Try.ntmps27
  go_wp2_with fail
  refine (open_any (CodeAt.below h'.out hb0.out)).mono ?_
  rintro e w1 ⟨g, rfl, hg, hr1, hb1⟩
  have hr1' : Hid (RdAt w1 g a n cap) := hr1
  have hg' : w.heap.size + 2 ≤ g := by simpa using hg
  have hB1 : Hid (Below w.heap.size w w1) := hb0.out.trans (hb1.mono hb0.out.size)
  have bR1 : Hid (Box w1 w.heap.size [.string ⟨#[]⟩, .slice none 0 0] 26) := bR0.out.below hb1 bR0.out.lt
  have bS1 : Hid (Box w1 (w.heap.size + 1) [.int .i64 0, .slice none 0 0, .string ⟨#[]⟩, .string ⟨#[]⟩, .slice none 0 0] 29) := bS0.out.below hb1 bS0.out.lt
  have hlt1 := hr1.lt
  clear hr1 hb1 hg bR0 bS0 hb0
  go_wp2_with fail
  refine (drT_all 4 (by omega) (by omega) w1 g a n cap 1 hr1'.out (by omega)).mono ?_
  rintro e w2 ⟨cs, x, fs, rfl, hok, hnd, hlo, hr2, hg2⟩
  have hB2 : Hid (Below w.heap.size w w2) := below_grown hB1.out (by omega) hg2
  have bR2 : Hid (Box w2 w.heap.size [.string ⟨#[]⟩, .slice none 0 0] 26) := box_other bR1.out (by omega) hg2
  have bS2 : Hid (Box w2 (w.heap.size + 1) [.int .i64 0, .slice none 0 0, .string ⟨#[]⟩, .string ⟨#[]⟩, .slice none 0 0] 29) := box_other bS1.out (by omega) hg2
  have hr2' : Hid (RdAt w2 g a n cap) := hr2
  obtain ⟨t0, k0, e, q⟩ := TreeOwn_at (lo := w1.heap.size + 1) 4 _ _ _ _ hok hlo
  obtain ⟨⟨s, rfl⟩, y1, y2, rfl⟩ := q.form
  subst e
  have ht2 : Hid (TreeAt w2 (w1.heap.size + 1) 4 _ _ x) := q
  have hz2 := hg2.size
  clear hok hnd hlo hr2 hg2 q
  have hbT : Hid (Below w2.heap.size w2 (w2.alloc (.cells #[.string s, .slice y1 (kidsOf x).length y2] 26))) := (Below.refl _ _).alloc (Nat.le_refl _) _
  have bTa : Hid (Box (w2.alloc (.cells #[.string s, .slice y1 (kidsOf x).length y2] 26)) w2.heap.size [.string s, .slice y1 (kidsOf x).length y2] 26) := Box.new w2 _ _
  have bRa : Hid (Box (w2.alloc (.cells #[.string s, .slice y1 (kidsOf x).length y2] 26)) w.heap.size [.string ⟨#[]⟩, .slice none 0 0] 26) := bR2.out.alloc _
  have bSa : Hid (Box (w2.alloc (.cells #[.string s, .slice y1 (kidsOf x).length y2] 26)) (w.heap.size + 1) [.int .i64 0, .slice none 0 0, .string ⟨#[]⟩, .string ⟨#[]⟩, .slice none 0 0] 29) := bS2.out.alloc _
  have hta : Hid (TreeAt (w2.alloc (.cells #[.string s, .slice y1 (kidsOf x).length y2] 26)) (w1.heap.size + 1) 4 (.string s) (.slice y1 (kidsOf x).length y2) x) := ht2.out.below hbT.out
  have hBa : Hid (Below w.heap.size w (w2.alloc (.cells #[.string s, .slice y1 (kidsOf x).length y2] 26))) := hB2.out.trans (hbT.out.mono hB2.out.size)
  have hrd0 : Hid (RdAt (w2.alloc (.cells #[.string s, .slice y1 (kidsOf x).length y2] 26)) g a n cap) := hr2'.out.below hbT.out
  clear hbT ht2 hr2' bR2 bS2 hB2 bR1 bS1 hB1 hr1' h'
  go_upto_region 3 with fail
  generalize (w2.alloc (.cells #[.string s, .slice y1 (kidsOf x).length y2] 26)) = wa at bTa bRa bSa hta hBa hrd0 ⊢
  have hlo1 : g < w1.heap.size + 1 := by omega
  have hRlo : w.heap.size + 1 < w1.heap.size + 1 := by omega
  generalize w1.heap.size + 1 = lo1 at hta hlo1 hRlo
  generalize w2.heap.size = gt at bTa hz2 ⊢
  have hga : g < wa.heap.size := hrd0.out.lt
  have hgt : g < gt := by omega
  have hRa : w.heap.size + 1 < wa.heap.size := bSa.out.lt
  have hrd : Hid (RdAt wa.drew g a n cap) := hrd0.out.below (Below.drew (Below.refl _ _))
  refine wp_region_held_drew (S := fun w' => w'.cell? ⟨gt, 0, none⟩ = some (.string s) ∧ w'.cell? ⟨gt, 1, none⟩ = some (.slice y1 (kidsOf x).length y2)) (by kernel_rfl) ⟨bTa.out.cell 0 rfl, bTa.out.cell 1 rfl⟩ (fun hHeld => ?_)
  refine tq (i := 0) (d := 10) ?_
  simp only [sz, ss]
  refine tq (i := 1) (d := 11) ?_
  simp only [sz, ss]
  refine tq (i := 2) (d := 12) ?_
  simp only [sz, ss]
  refine wpAnyH_ready (rs := [3]) (by kernel_rfl) (by simp) ?_
  refine AllReadyH.cons rfl (fun K hK => ?_) AllReadyH.nil
  go_simp
  refine (edit_any (by exact hrd.out) (by exact hta.out.below (Below.drew (Below.refl _ _))) hlo1 (by omega)).mono ?_
  rintro e w4 ⟨⟨cs4, y, rfl, hE0, hl0⟩, hr4, hg4⟩
  obtain ⟨ap, cp, a9, c9, rfl, _, _, _⟩ := hE0.here.form
  have hg4' : Hid (World.grownBy wa w4 (some g)) := ⟨hg4.os, hg4.tape, hg4.output, hg4.size, hg4.block⟩
  have hl4 : Hid (y.vPath.length ≤ 6) := hl0
  have hE4 : Hid (Stab (fun b => b < wa.heap.size) w4 (fun W => EditAt 4 W 0 [.int .i64 y.vKind, .slice ap y.vPath.length cp, .string y.vTag, .string (strT y.vTree), .slice a9 (kidsOf y.vTree).length c9] y)) := hE0
  have bR4 : Hid (Box w4 w.heap.size [.string ⟨#[]⟩, .slice none 0 0] 26) := box_other bRa.out (by omega) hg4'.out
  have bS4 : Hid (Box w4 (w.heap.size + 1) [.int .i64 0, .slice none 0 0, .string ⟨#[]⟩, .string ⟨#[]⟩, .slice none 0 0] 29) := box_other bSa.out (by omega) hg4'.out
  have bT4 : Hid (Box w4 gt [.string s, .slice y1 (kidsOf x).length y2] 26) := box_other bTa.out (by omega) hg4'.out
  have hB4 : Hid (Below w.heap.size w w4) := below_grown hBa.out (by omega) hg4'.out
  have ht4 : Hid (TreeAt w4 lo1 4 (.string s) (.slice y1 (kidsOf x).length y2) x) := TreeAt.keep hg4'.out.size (Nat.le_refl _) (fun b q1 q2 => hg4'.out.block b q2 (fun e => by injection e with e; omega)) 4 _ _ _ hta.out
  have sz4 := hg4'.out.size
  clear hE0 hl0 hr4 hg4
  refine hK.out _ _ ⟨bT4.out.cell 0 rfl, bT4.out.cell 1 rfl⟩ (fun hHeld => ?_)
  clear hK K
  refine wpAnyH_ready (rs := [4]) (by kernel_rfl) (by simp) ?_
  refine AllReadyH.cons rfl (fun K hK => ?_) AllReadyH.nil
  have r0 := bR4.out.cell 0 rfl
  have r1 := bR4.out.cell 1 rfl
  have fR := bR4.out.unfrozen
  have bR5 : Hid (Box (putCells w4 w.heap.size 0 [.string s, .slice y1 (kidsOf x).length y2]) w.heap.size [.string s, .slice y1 (kidsOf x).length y2] 26) := (bR4.out.set (i := 0) _).set (i := 1) _
  have bS5 : Hid (Box (putCells w4 w.heap.size 0 [.string s, .slice y1 (kidsOf x).length y2]) (w.heap.size + 1) [.int .i64 0, .slice none 0 0, .string ⟨#[]⟩, .string ⟨#[]⟩, .slice none 0 0] 29) := (putCells_other _ _ _ _ _ (by omega)).trans bS4.out
  have bT5 : Hid (Box (putCells w4 w.heap.size 0 [.string s, .slice y1 (kidsOf x).length y2]) gt [.string s, .slice y1 (kidsOf x).length y2] 26) := (putCells_other _ _ _ _ _ (by omega)).trans bT4.out
  go_simp
  refine hK.out _ _ ⟨bT5.out.cell 0 rfl, bT5.out.cell 1 rfl⟩ (fun hHeld => ?_)
  clear hK K
  refine wpAnyH_ready (rs := [5]) (by kernel_rfl) (by simp) ?_
  refine AllReadyH.cons rfl (fun K hK => ?_) AllReadyH.nil
  have v0 := bS4.out.cell 0 rfl
  have v1 := bS4.out.cell 1 rfl
  have v2 := bS4.out.cell 2 rfl
  have v3 := bS4.out.cell 3 rfl
  have v4 := bS4.out.cell 4 rfl
  have fS := bS4.out.unfrozen
  have bR6 : Hid (Box (putCells (putCells w4 w.heap.size 0 [.string s, .slice y1 (kidsOf x).length y2]) (w.heap.size + 1) 0 [.int .i64 y.vKind, .slice ap y.vPath.length cp, .string y.vTag, .string (strT y.vTree), .slice a9 (kidsOf y.vTree).length c9]) w.heap.size [.string s, .slice y1 (kidsOf x).length y2] 26) := (putCells_other _ _ _ _ _ (by omega)).trans bR5.out
  have bS6 : Hid (Box (putCells (putCells w4 w.heap.size 0 [.string s, .slice y1 (kidsOf x).length y2]) (w.heap.size + 1) 0 [.int .i64 y.vKind, .slice ap y.vPath.length cp, .string y.vTag, .string (strT y.vTree), .slice a9 (kidsOf y.vTree).length c9]) (w.heap.size + 1) [.int .i64 y.vKind, .slice ap y.vPath.length cp, .string y.vTag, .string (strT y.vTree), .slice a9 (kidsOf y.vTree).length c9] 29) := ((((bS5.out.set (i := 0) _).set (i := 1) _).set (i := 2) _).set (i := 3) _).set (i := 4) _
  have bT6 : Hid (Box (putCells (putCells w4 w.heap.size 0 [.string s, .slice y1 (kidsOf x).length y2]) (w.heap.size + 1) 0 [.int .i64 y.vKind, .slice ap y.vPath.length cp, .string y.vTag, .string (strT y.vTree), .slice a9 (kidsOf y.vTree).length c9]) gt [.string s, .slice y1 (kidsOf x).length y2] 26) := (putCells_other _ _ _ _ _ (by omega)).trans bT5.out
  go_simp
  refine hK.out _ _ ⟨bT6.out.cell 0 rfl, bT6.out.cell 1 rfl⟩ (fun hHeld => ?_)
  clear hK K
  refine wpAnyH_done (by kernel_rfl) ?_ _
  go_wp2_with fail
  have s0 := bR6.out.cell 0 rfl
  have s1 := bR6.out.cell 1 rfl
  have q0 := bS6.out.cell 0 rfl
  have q1 := bS6.out.cell 1 rfl
  have q2 := bS6.out.cell 2 rfl
  have q3 := bS6.out.cell 3 rfl
  have q4 := bS6.out.cell 4 rfl
  have hF : Stab (fun b => b < w.heap.size) (putCells (putCells w4 w.heap.size 0 [.string s, .slice y1 (kidsOf x).length y2]) (w.heap.size + 1) 0 [.int .i64 y.vKind, .slice ap y.vPath.length cp, .string y.vTag, .string (strT y.vTree), .slice a9 (kidsOf y.vTree).length c9]) (fun W => TreeAt W 0 4 (.string s) (.slice y1 (kidsOf x).length y2) x ∧ EditAt 4 W 0 [.int .i64 y.vKind, .slice ap y.vPath.length cp, .string y.vTag, .string (strT y.vTree), .slice a9 (kidsOf y.vTree).length c9] y) := Stab.both ((((tree_stab (S := fun b => b < lo1) ht4.out (fun b h1 _ h3 => by omega)).puts (g := w.heap.size) (o := 0) (by show _ < _; omega) [.string s, .slice y1 (kidsOf x).length y2]).puts (g := w.heap.size + 1) (o := 0) (by show _ < _; omega) [.int .i64 y.vKind, .slice ap y.vPath.length cp, .string y.vTag, .string (strT y.vTree), .slice a9 (kidsOf y.vTree).length c9]).less (fun b hb => by show _ < _; omega)) (((hE4.out.puts (g := w.heap.size) (o := 0) (by show _ < _; omega) [.string s, .slice y1 (kidsOf x).length y2]).puts (g := w.heap.size + 1) (o := 0) (by show _ < _; omega) [.int .i64 y.vKind, .slice ap y.vPath.length cp, .string y.vTag, .string (strT y.vTree), .slice a9 (kidsOf y.vTree).length c9]).less (fun b hb => by show _ < _; omega))
  exact bodyPost_ret (v := .tuple #[.agg (List.toArray [.string s, .slice y1 (kidsOf x).length y2]), .agg (List.toArray [.int .i64 y.vKind, .slice ap y.vPath.length cp, .string y.vTag, .string (strT y.vTree), .slice a9 (kidsOf y.vTree).length c9])]) (by simp only [putCells] at s0 s1 q0 q1 q2 q3 q4; simp [results, Try.results27, go_sem, s0, s1, q0, q1, q2, q3, q4]) rfl ⟨⟨_, _, [.int .i64 y.vKind, .slice ap y.vPath.length cp, .string y.vTag, .string (strT y.vTree), .slice a9 (kidsOf y.vTree).length c9], x, y, rfl, hF, hl4.out⟩, putCells_below [.int .i64 y.vKind, .slice ap y.vPath.length cp, .string y.vTag, .string (strT y.vTree), .slice a9 (kidsOf y.vTree).length c9] _ _ _ (w.heap.size + 1) 0 (by omega) (putCells_below [.string s, .slice y1 (kidsOf x).length y2] _ _ _ w.heap.size 0 (Nat.le_refl _) hB4.out)⟩
set_option maxRecDepth 100000 in
set_option maxHeartbeats 4000000 in
theorem drawEdited_any {w : World} {a : Option Addr} {n cap : Nat} (h : CodeAt w a n) : Calls Try.prog 9 #[.slice a n cap] w fun e w' => DrawnE w.heap.size w' e ∧ Below w.heap.size w w' := by
  have h' : Hid (CodeAt w a n) := h
  clear h
  have hb0 : Hid (Below w.heap.size w ((w.alloc (.cells #[.string ⟨#[]⟩, .slice none 0 0] 26)).alloc (.cells #[.int .i64 0, .slice none 0 0, .string ⟨#[]⟩, .string ⟨#[]⟩, .slice none 0 0] 29))) := ((Below.refl _ _).alloc (Nat.le_refl _) _).alloc (by simp) _
  have bR0 : Hid (Box ((w.alloc (.cells #[.string ⟨#[]⟩, .slice none 0 0] 26)).alloc (.cells #[.int .i64 0, .slice none 0 0, .string ⟨#[]⟩, .string ⟨#[]⟩, .slice none 0 0] 29)) w.heap.size [.string ⟨#[]⟩, .slice none 0 0] 26) := (Box.new w [.string ⟨#[]⟩, .slice none 0 0] 26).alloc _
  have bS0 : Hid (Box ((w.alloc (.cells #[.string ⟨#[]⟩, .slice none 0 0] 26)).alloc (.cells #[.int .i64 0, .slice none 0 0, .string ⟨#[]⟩, .string ⟨#[]⟩, .slice none 0 0] 29)) (w.heap.size + 1) [.int .i64 0, .slice none 0 0, .string ⟨#[]⟩, .string ⟨#[]⟩, .slice none 0 0] 29) := by have q := Box.new (w.alloc (.cells #[.string ⟨#[]⟩, .slice none 0 0] 26)) [.int .i64 0, .slice none 0 0, .string ⟨#[]⟩, .string ⟨#[]⟩, .slice none 0 0] 29; rw [World.size_alloc] at q; exact q
  have sz0 : ((w.alloc (.cells #[.string ⟨#[]⟩, .slice none 0 0] 26)).alloc (.cells #[.int .i64 0, .slice none 0 0, .string ⟨#[]⟩, .string ⟨#[]⟩, .slice none 0 0] 29)).heap.size = w.heap.size + 2 := by simp
  go_enter Try.func9, Try.ntmps9
  go_wp2_with fail
  refine (drawEditOk_any (CodeAt.below h'.out hb0.out)).mono ?_
  rintro e w1 ⟨⟨t, k, cs, x, y, rfl, hS, hl⟩, hb1⟩
  obtain ⟨⟨s, rfl⟩, y1, y2, rfl⟩ := hS.here.1.form
  obtain ⟨ap, cp, a9, c9, rfl, _, _, _⟩ := hS.here.2.form
  rw [sz0] at hS
  have hS1 : Hid (Stab (fun b => b < w.heap.size + 2) w1 (fun W => TreeAt W 0 4 (.string s) (.slice y1 (kidsOf x).length y2) x ∧ EditAt 4 W 0 [.int .i64 y.vKind, .slice ap y.vPath.length cp, .string y.vTag, .string (strT y.vTree), .slice a9 (kidsOf y.vTree).length c9] y)) := hS
  have hl1 : Hid (y.vPath.length ≤ 6) := hl
  have hB1 : Hid (Below w.heap.size w w1) := hb0.out.trans (hb1.mono hb0.out.size)
  have bR1 : Hid (Box w1 w.heap.size [.string ⟨#[]⟩, .slice none 0 0] 26) := bR0.out.below hb1 bR0.out.lt
  have bS1 : Hid (Box w1 (w.heap.size + 1) [.int .i64 0, .slice none 0 0, .string ⟨#[]⟩, .string ⟨#[]⟩, .slice none 0 0] 29) := bS0.out.below hb1 bS0.out.lt
  clear hS hl hb1 hb0 bR0 bS0 sz0 h'
  have r0 := bR1.out.cell 0 rfl
  have r1 := bR1.out.cell 1 rfl
  have fR := bR1.out.unfrozen
  have bR2 : Hid (Box (putCells w1 w.heap.size 0 [.string s, .slice y1 (kidsOf x).length y2]) w.heap.size [.string s, .slice y1 (kidsOf x).length y2] 26) := (bR1.out.set (i := 0) _).set (i := 1) _
  have bS2 : Hid (Box (putCells w1 w.heap.size 0 [.string s, .slice y1 (kidsOf x).length y2]) (w.heap.size + 1) [.int .i64 0, .slice none 0 0, .string ⟨#[]⟩, .string ⟨#[]⟩, .slice none 0 0] 29) := (putCells_other _ _ _ _ _ (by omega)).trans bS1.out
  have v0 := bS1.out.cell 0 rfl
  have v1 := bS1.out.cell 1 rfl
  have v2 := bS1.out.cell 2 rfl
  have v3 := bS1.out.cell 3 rfl
  have v4 := bS1.out.cell 4 rfl
  have fS := bS1.out.unfrozen
  have bR3 : Hid (Box (putCells (putCells w1 w.heap.size 0 [.string s, .slice y1 (kidsOf x).length y2]) (w.heap.size + 1) 0 [.int .i64 y.vKind, .slice ap y.vPath.length cp, .string y.vTag, .string (strT y.vTree), .slice a9 (kidsOf y.vTree).length c9]) w.heap.size [.string s, .slice y1 (kidsOf x).length y2] 26) := (putCells_other _ _ _ _ _ (by omega)).trans bR2.out
  have bS3 : Hid (Box (putCells (putCells w1 w.heap.size 0 [.string s, .slice y1 (kidsOf x).length y2]) (w.heap.size + 1) 0 [.int .i64 y.vKind, .slice ap y.vPath.length cp, .string y.vTag, .string (strT y.vTree), .slice a9 (kidsOf y.vTree).length c9]) (w.heap.size + 1) [.int .i64 y.vKind, .slice ap y.vPath.length cp, .string y.vTag, .string (strT y.vTree), .slice a9 (kidsOf y.vTree).length c9] 29) := ((((bS2.out.set (i := 0) _).set (i := 1) _).set (i := 2) _).set (i := 3) _).set (i := 4) _
  go_wp2_with fail
  have s0 := bR3.out.cell 0 rfl
  have s1 := bR3.out.cell 1 rfl
  have q0 := bS3.out.cell 0 rfl
  have q1 := bS3.out.cell 1 rfl
  have q2 := bS3.out.cell 2 rfl
  have q3 := bS3.out.cell 3 rfl
  have q4 := bS3.out.cell 4 rfl
  exact bodyPost_ret (v := .tuple #[.agg (List.toArray [.string s, .slice y1 (kidsOf x).length y2]), .agg (List.toArray [.int .i64 y.vKind, .slice ap y.vPath.length cp, .string y.vTag, .string (strT y.vTree), .slice a9 (kidsOf y.vTree).length c9])]) (by simp only [putCells] at s0 s1 q0 q1 q2 q3 q4; simp [results, Try.results9, go_sem, s0, s1, q0, q1, q2, q3, q4]) rfl ⟨⟨_, _, [.int .i64 y.vKind, .slice ap y.vPath.length cp, .string y.vTag, .string (strT y.vTree), .slice a9 (kidsOf y.vTree).length c9], x, y, rfl, ((hS1.out.puts (g := w.heap.size) (o := 0) (by show _ < _; omega) [.string s, .slice y1 (kidsOf x).length y2]).puts (g := w.heap.size + 1) (o := 0) (by show _ < _; omega) [.int .i64 y.vKind, .slice ap y.vPath.length cp, .string y.vTag, .string (strT y.vTree), .slice a9 (kidsOf y.vTree).length c9]).less (fun b hb => by show _ < _; omega), hl1.out⟩, putCells_below [.int .i64 y.vKind, .slice ap y.vPath.length cp, .string y.vTag, .string (strT y.vTree), .slice a9 (kidsOf y.vTree).length c9] _ _ _ (w.heap.size + 1) 0 (by omega) (putCells_below [.string s, .slice y1 (kidsOf x).length y2] _ _ _ w.heap.size 0 (Nat.le_refl _) hB1.out)⟩
set_option maxRecDepth 100000 in
set_option maxHeartbeats 4000000 in
theorem drawUndone_any {w : World} {a : Option Addr} {n cap : Nat} (h : CodeAt w a n) : Calls Try.prog 17 #[.slice a n cap] w fun e w' => DrawnE w.heap.size w' e ∧ Below w.heap.size w w' := by
  have h' : Hid (CodeAt w a n) := h
  clear h
  have hb0 : Hid (Below w.heap.size w ((w.alloc (.cells #[.string ⟨#[]⟩, .slice none 0 0] 26)).alloc (.cells #[.int .i64 0, .slice none 0 0, .string ⟨#[]⟩, .string ⟨#[]⟩, .slice none 0 0] 29))) := ((Below.refl _ _).alloc (Nat.le_refl _) _).alloc (by simp) _
  have bR0 : Hid (Box ((w.alloc (.cells #[.string ⟨#[]⟩, .slice none 0 0] 26)).alloc (.cells #[.int .i64 0, .slice none 0 0, .string ⟨#[]⟩, .string ⟨#[]⟩, .slice none 0 0] 29)) w.heap.size [.string ⟨#[]⟩, .slice none 0 0] 26) := (Box.new w [.string ⟨#[]⟩, .slice none 0 0] 26).alloc _
  have bS0 : Hid (Box ((w.alloc (.cells #[.string ⟨#[]⟩, .slice none 0 0] 26)).alloc (.cells #[.int .i64 0, .slice none 0 0, .string ⟨#[]⟩, .string ⟨#[]⟩, .slice none 0 0] 29)) (w.heap.size + 1) [.int .i64 0, .slice none 0 0, .string ⟨#[]⟩, .string ⟨#[]⟩, .slice none 0 0] 29) := by have q := Box.new (w.alloc (.cells #[.string ⟨#[]⟩, .slice none 0 0] 26)) [.int .i64 0, .slice none 0 0, .string ⟨#[]⟩, .string ⟨#[]⟩, .slice none 0 0] 29; rw [World.size_alloc] at q; exact q
  have sz0 : ((w.alloc (.cells #[.string ⟨#[]⟩, .slice none 0 0] 26)).alloc (.cells #[.int .i64 0, .slice none 0 0, .string ⟨#[]⟩, .string ⟨#[]⟩, .slice none 0 0] 29)).heap.size = w.heap.size + 2 := by simp
  go_enter Try.func17, Try.ntmps17
  go_wp2_with fail
  refine (drawEditOk_any (CodeAt.below h'.out hb0.out)).mono ?_
  rintro e w1 ⟨⟨t, k, cs, x, y, rfl, hS, hl⟩, hb1⟩
  obtain ⟨⟨s, rfl⟩, y1, y2, rfl⟩ := hS.here.1.form
  obtain ⟨ap, cp, a9, c9, rfl, _, _, _⟩ := hS.here.2.form
  rw [sz0] at hS
  have hS1 : Hid (Stab (fun b => b < w.heap.size + 2) w1 (fun W => TreeAt W 0 4 (.string s) (.slice y1 (kidsOf x).length y2) x ∧ EditAt 4 W 0 [.int .i64 y.vKind, .slice ap y.vPath.length cp, .string y.vTag, .string (strT y.vTree), .slice a9 (kidsOf y.vTree).length c9] y)) := hS
  have hl1 : Hid (y.vPath.length ≤ 6) := hl
  have hB1 : Hid (Below w.heap.size w w1) := hb0.out.trans (hb1.mono hb0.out.size)
  have bR1 : Hid (Box w1 w.heap.size [.string ⟨#[]⟩, .slice none 0 0] 26) := bR0.out.below hb1 bR0.out.lt
  have bS1 : Hid (Box w1 (w.heap.size + 1) [.int .i64 0, .slice none 0 0, .string ⟨#[]⟩, .string ⟨#[]⟩, .slice none 0 0] 29) := bS0.out.below hb1 bS0.out.lt
  clear hS hl hb1 hb0 bR0 bS0 sz0 h'
  have r0 := bR1.out.cell 0 rfl
  have r1 := bR1.out.cell 1 rfl
  have fR := bR1.out.unfrozen
  have bR2 : Hid (Box (putCells w1 w.heap.size 0 [.string s, .slice y1 (kidsOf x).length y2]) w.heap.size [.string s, .slice y1 (kidsOf x).length y2] 26) := (bR1.out.set (i := 0) _).set (i := 1) _
  have bS2 : Hid (Box (putCells w1 w.heap.size 0 [.string s, .slice y1 (kidsOf x).length y2]) (w.heap.size + 1) [.int .i64 0, .slice none 0 0, .string ⟨#[]⟩, .string ⟨#[]⟩, .slice none 0 0] 29) := (putCells_other _ _ _ _ _ (by omega)).trans bS1.out
  have v0 := bS1.out.cell 0 rfl
  have v1 := bS1.out.cell 1 rfl
  have v2 := bS1.out.cell 2 rfl
  have v3 := bS1.out.cell 3 rfl
  have v4 := bS1.out.cell 4 rfl
  have fS := bS1.out.unfrozen
  have bR3 : Hid (Box (putCells (putCells w1 w.heap.size 0 [.string s, .slice y1 (kidsOf x).length y2]) (w.heap.size + 1) 0 [.int .i64 y.vKind, .slice ap y.vPath.length cp, .string y.vTag, .string (strT y.vTree), .slice a9 (kidsOf y.vTree).length c9]) w.heap.size [.string s, .slice y1 (kidsOf x).length y2] 26) := (putCells_other _ _ _ _ _ (by omega)).trans bR2.out
  have bS3 : Hid (Box (putCells (putCells w1 w.heap.size 0 [.string s, .slice y1 (kidsOf x).length y2]) (w.heap.size + 1) 0 [.int .i64 y.vKind, .slice ap y.vPath.length cp, .string y.vTag, .string (strT y.vTree), .slice a9 (kidsOf y.vTree).length c9]) (w.heap.size + 1) [.int .i64 y.vKind, .slice ap y.vPath.length cp, .string y.vTag, .string (strT y.vTree), .slice a9 (kidsOf y.vTree).length c9] 29) := ((((bS2.out.set (i := 0) _).set (i := 1) _).set (i := 2) _).set (i := 3) _).set (i := 4) _
  go_wp2_with fail
  have s0 := bR3.out.cell 0 rfl
  have s1 := bR3.out.cell 1 rfl
  have q0 := bS3.out.cell 0 rfl
  have q1 := bS3.out.cell 1 rfl
  have q2 := bS3.out.cell 2 rfl
  have q3 := bS3.out.cell 3 rfl
  have q4 := bS3.out.cell 4 rfl
  exact bodyPost_ret (v := .tuple #[.agg (List.toArray [.string s, .slice y1 (kidsOf x).length y2]), .agg (List.toArray [.int .i64 y.vKind, .slice ap y.vPath.length cp, .string y.vTag, .string (strT y.vTree), .slice a9 (kidsOf y.vTree).length c9])]) (by simp only [putCells] at s0 s1 q0 q1 q2 q3 q4; simp [results, Try.results17, go_sem, s0, s1, q0, q1, q2, q3, q4]) rfl ⟨⟨_, _, [.int .i64 y.vKind, .slice ap y.vPath.length cp, .string y.vTag, .string (strT y.vTree), .slice a9 (kidsOf y.vTree).length c9], x, y, rfl, ((hS1.out.puts (g := w.heap.size) (o := 0) (by show _ < _; omega) [.string s, .slice y1 (kidsOf x).length y2]).puts (g := w.heap.size + 1) (o := 0) (by show _ < _; omega) [.int .i64 y.vKind, .slice ap y.vPath.length cp, .string y.vTag, .string (strT y.vTree), .slice a9 (kidsOf y.vTree).length c9]).less (fun b hb => by show _ < _; omega), hl1.out⟩, putCells_below [.int .i64 y.vKind, .slice ap y.vPath.length cp, .string y.vTag, .string (strT y.vTree), .slice a9 (kidsOf y.vTree).length c9] _ _ _ (w.heap.size + 1) 0 (by omega) (putCells_below [.string s, .slice y1 (kidsOf x).length y2] _ _ _ w.heap.size 0 (Nat.le_refl _) hB1.out)⟩
end Go.Proofs.Ytndffcogddefiaa
