/- What is drawn as a name, and as an op: walked. -/
import Derived.Test.YtdnembnlomnceaaGreatAbb
import Derived.Test.YtdnembnlomnceaaGreatDrawLis
namespace Go.Proofs.YtdnembnlomnceaaGreat
open Go.RowKit Go.Deep
def divT : List ByteArray := [⟨#[100, 105, 118]⟩, ⟨#[112]⟩, ⟨#[108, 105]⟩]
def xyT : List ByteArray := [⟨#[120]⟩, ⟨#[121]⟩]
def oddT : List ByteArray := [⟨#[]⟩, ⟨#[97, 98, 99, 100, 101, 102, 103]⟩, ⟨#[122, 122]⟩]
def nmT : List ByteArray := [⟨#[97]⟩, ⟨#[98]⟩, ⟨#[99]⟩, ⟨#[100]⟩]
set_option maxHeartbeats 1000000 in
theorem name_any {w : World} {g : Nat} {a : Option Addr} {n cap : Nat} (h : RdAt w g a n cap) :
 Calls Tryz.prog 82 #[.pointer (some ⟨g, 0, none⟩)] w fun e w' => ∃ s : ByteArray, e = .returned (.string s) ∧ s.size ≤ 6 ∧ RdAt w' g a n cap ∧ w.grownBy w' (some g) := by
 have h' : Hid (RdAt w g a n cap) := h
 have hlt := h.lt
 clear h
 have hb0 : Hid (Below w.heap.size w (w.alloc (.cells (nmT.map Value.string).toArray 9))) := (Below.refl _ _).alloc (Nat.le_refl _) _
 have bx0 : Hid (Box (w.alloc (.cells (nmT.map Value.string).toArray 9)) w.heap.size (nmT.map Value.string) 9) := Box.new w _ _
 go_enter Tryz.func82, Tryz.ntmps82
 go_wp2_with fail
 refine (below_any (RdAt.below h'.out hb0.out) 4 (by omega) (by omega)).mono ?_
 rintro e w1 ⟨v, rfl, v0, v1, hr1, hg1⟩
 have hr1' : Hid (RdAt w1 g a n cap) := hr1
 have hg1' : Hid (w.grownBy w1 (some g)) := (grown_of_below hb0.out _).trans hg1
 have bx1 : Hid (Box w1 w.heap.size (nmT.map Value.string) 9) := box_other bx0.out (by omega) hg1
 obtain ⟨k, rfl⟩ := Int.eq_ofNat_of_zero_le v0
 have hk : k < nmT.length := by show k < 4; omega
 have hc := box_str bx1.out k hk
 have hsz : Hid (nmT[k].size ≤ 6) := mem_le (by decide) k hk
 generalize nmT[k] = s at hc hsz
 have hk8 : (k : Int) < 4 := by omega
 clear hr1 hg1
 go_wp2_with fail
 go_ret
 exact ⟨_, rfl, hsz.out, hr1'.out, hg1'.out⟩
theorem Box.puts9 {w : World} {g : Nat} {a b c d e f h i j a' b' c' d' e' f' h' i' j' : Value} {T : TypeId} (q : Box w g [a, b, c, d, e, f, h, i, j] T) : Box (putCells w g 0 [a', b', c', d', e', f', h', i', j']) g [a', b', c', d', e', f', h', i', j'] T := ((((((((q.set (i := 0) _).set (i := 1) _).set (i := 2) _).set (i := 3) _).set (i := 4) _).set (i := 5) _).set (i := 6) _).set (i := 7) _).set (i := 8) _
theorem grown_putsO {w W : World} {g E o : Nat} (cs : List Value) (h : w.grownBy W (some g)) (hE : w.heap.size ≤ E) : w.grownBy (putCells W E o cs) (some g) := by
 induction cs generalizing o W with
 | nil => exact h
 | cons c cs ih => exact ih (o := o + 1) ⟨h.os, h.tape, h.output, by rw [set_size]; exact h.size, fun x hx hne => (set_other (by omega) _).trans (h.block x hx hne)⟩
/-- an op that is being drawn, in its box -/
structure OS (w : World) (g : Nat) (a : Option Addr) (n cap E : Nat) (o : OpD) (W : World) : Prop where
 hG : w.grownBy W (some g)
 hR : RdAt W g a n cap
 bR : Box W w.heap.size [.int .i64 0, .string ⟨#[]⟩, .string ⟨#[]⟩, .string ⟨#[]⟩, .string ⟨#[]⟩, .bool false, .bool false, .int .i64 0, .string ⟨#[]⟩] 91
 bE : Box W E (cOp o.vKind o) 91
 hE : w.heap.size < E
 fit : o.fits
 st : InI o.vStop
 wd : o.vWord.size ≤ 3
theorem OS.below {w W W' : World} {g : Nat} {a : Option Addr} {n cap E : Nat} {o : OpD} (h : OS w g a n cap E o W) (q : Below W.heap.size W W') : OS w g a n cap E o W' :=
 ⟨grown_on h.hG (grown_of_below q _), h.hR.below q, h.bR.below q h.bR.lt, h.bE.below q h.bE.lt, h.hE, h.fit, h.st, h.wd⟩
theorem OS.grow {w W W' : World} {g : Nat} {a : Option Addr} {n cap E : Nat} {o : OpD} (h : OS w g a n cap E o W) (hlt : g < w.heap.size) (hr : RdAt W' g a n cap) (q : W.grownBy W' (some g)) : OS w g a n cap E o W' :=
 ⟨grown_on h.hG q, hr, box_other h.bR (by omega) q, box_other h.bE (by have := h.hE; omega) q, h.hE, h.fit, h.st, h.wd⟩
theorem OS.turn {w W : World} {g : Nat} {a : Option Addr} {n cap E : Nat} {o o' : OpD} {i : Nat} {v : Value} (h : OS w g a n cap E o W) (hlt : g < w.heap.size) (e : (cOp o.vKind o).set i v = (cOp o'.vKind o')) (hf : o'.fits) (hs : InI o'.vStop) (hw : o'.vWord.size ≤ 3) : OS w g a n cap E o' (W.setCell ⟨E, i, none⟩ v) := by
 have hE := h.hE
 refine ⟨⟨h.hG.os, h.hG.tape, h.hG.output, by rw [set_size]; exact h.hG.size, fun b h1 h2 => (set_other (by omega) _).trans (h.hG.block b h1 h2)⟩, h.hR.keep (fun b hb => set_other (by omega) _), (set_other (by omega) _).trans h.bR, ?_, hE, hf, hs, hw⟩
 rw [← e]; exact h.bE.set v
theorem OS.lis {w W : World} {g : Nat} {a : Option Addr} {n cap E : Nat} {o : OpD} (h : OS w g a n cap E o W) (hlt : g < w.heap.size) (x : ListenerD) (h1 : x.vType.size ≤ 6) (h2 : x.vName.size ≤ 6) (h3 : InI x.vStop) :
 OS w g a n cap E ⟨o.vKind, o.vName, o.vOther, o.vWord, x.vType, x.vCapture, x.vOnce, x.vStop, x.vName⟩ (putCells W E 4 [.string x.vType, .bool x.vCapture, .bool x.vOnce, .int .i64 x.vStop, .string x.vName]) := by
 obtain ⟨f1, f2, f3, f4, f5⟩ := h.fit
 have m1 : x.vType.size ≤ maxLen := by unfold maxLen; omega
 have m2 : x.vName.size ≤ maxLen := by unfold maxLen; omega
 have a1 := h.turn hlt (i := 4) (v := .string x.vType) (o' := ⟨o.vKind, o.vName, o.vOther, o.vWord, x.vType, o.vCapture, o.vOnce, o.vStop, o.vLname⟩) rfl ⟨f1, f2, f3, m1, f5⟩ h.st h.wd
 have a2 := a1.turn hlt (i := 5) (v := .bool x.vCapture) (o' := ⟨o.vKind, o.vName, o.vOther, o.vWord, x.vType, x.vCapture, o.vOnce, o.vStop, o.vLname⟩) rfl ⟨f1, f2, f3, m1, f5⟩ h.st h.wd
 have a3 := a2.turn hlt (i := 6) (v := .bool x.vOnce) (o' := ⟨o.vKind, o.vName, o.vOther, o.vWord, x.vType, x.vCapture, x.vOnce, o.vStop, o.vLname⟩) rfl ⟨f1, f2, f3, m1, f5⟩ h.st h.wd
 have a4 := a3.turn hlt (i := 7) (v := .int .i64 x.vStop) (o' := ⟨o.vKind, o.vName, o.vOther, o.vWord, x.vType, x.vCapture, x.vOnce, x.vStop, o.vLname⟩) rfl ⟨f1, f2, f3, m1, f5⟩ h3 h.wd
 exact a4.turn hlt (i := 8) (v := .string x.vName) (o' := ⟨o.vKind, o.vName, o.vOther, o.vWord, x.vType, x.vCapture, x.vOnce, x.vStop, x.vName⟩) rfl ⟨f1, f2, f3, m1, m2⟩ h3 h.wd
set_option maxRecDepth 100000 in
set_option maxHeartbeats 8000000 in
theorem op_any {w : World} {g : Nat} {a : Option Addr} {n cap : Nat} (h : RdAt w g a n cap) :
 Calls Tryz.prog 45 #[.pointer (some ⟨g, 0, none⟩)] w fun e w' => ∃ o : OpD, e = .returned (.agg o.cells.toArray) ∧ o.fits ∧ InI o.vStop ∧ o.vWord.size ≤ 3 ∧ RdAt w' g a n cap ∧ w.grownBy w' (some g) := by
 have h' : Hid (RdAt w g a n cap) := h
 have hlt : Hid (g < w.heap.size) := h.lt
 clear h
 have bR0 : Hid (Box (w.alloc (.cells #[.int .i64 0, .string ⟨#[]⟩, .string ⟨#[]⟩, .string ⟨#[]⟩, .string ⟨#[]⟩, .bool false, .bool false, .int .i64 0, .string ⟨#[]⟩] 91)) w.heap.size [.int .i64 0, .string ⟨#[]⟩, .string ⟨#[]⟩, .string ⟨#[]⟩, .string ⟨#[]⟩, .bool false, .bool false, .int .i64 0, .string ⟨#[]⟩] 91) := Box.new w _ _
 have hb0 : Hid (Below w.heap.size w (w.alloc (.cells #[.int .i64 0, .string ⟨#[]⟩, .string ⟨#[]⟩, .string ⟨#[]⟩, .string ⟨#[]⟩, .bool false, .bool false, .int .i64 0, .string ⟨#[]⟩] 91))) := (Below.refl _ _).alloc (Nat.le_refl _) _
 go_enter Tryz.func45, Tryz.ntmps45
 go_upto_region 1 with fail
 generalize (w.alloc (.cells #[.int .i64 0, .string ⟨#[]⟩, .string ⟨#[]⟩, .string ⟨#[]⟩, .string ⟨#[]⟩, .bool false, .bool false, .int .i64 0, .string ⟨#[]⟩] 91)) = w0 at bR0 hb0 ⊢
 go_wp2_with fail
 refine (name_any (RdAt.below h'.out hb0.out)).mono ?_
 rintro e w1 ⟨s1, rfl, z1, hr1, hg1⟩
 have hS1 : Hid (OS w g a n cap w1.heap.size ⟨0, s1, ⟨#[]⟩, ⟨#[]⟩, ⟨#[]⟩, false, false, 0, ⟨#[]⟩⟩ (w1.alloc (.cells #[.int .i64 0, .string s1, .string ⟨#[]⟩, .string ⟨#[]⟩, .string ⟨#[]⟩, .bool false, .bool false, .int .i64 0, .string ⟨#[]⟩] 91))) := by
  have q1 := bR0.out.lt
  have q2 := hg1.size
  have AL : Below w1.heap.size w1 (w1.alloc (.cells #[.int .i64 0, .string s1, .string ⟨#[]⟩, .string ⟨#[]⟩, .string ⟨#[]⟩, .bool false, .bool false, .int .i64 0, .string ⟨#[]⟩] 91)) := (Below.refl _ _).alloc (Nat.le_refl _) _
  have b1 : Box w1 w.heap.size [.int .i64 0, .string ⟨#[]⟩, .string ⟨#[]⟩, .string ⟨#[]⟩, .string ⟨#[]⟩, .bool false, .bool false, .int .i64 0, .string ⟨#[]⟩] 91 := box_other bR0.out (by have := hlt.out; omega) hg1
  exact ⟨grown_on (grown_on (grown_of_below hb0.out _) hg1) (grown_of_below AL _), hr1.below AL, b1.below AL b1.lt, Box.new w1 _ _, by omega, ⟨(show s1.size ≤ maxLen by unfold maxLen; omega), (Nat.zero_le _), (Nat.zero_le _), (Nat.zero_le _), (Nat.zero_le _)⟩, (by show InI 0; unfold InI; omega), (Nat.zero_le _)⟩
 clear hr1 hg1 hb0 bR0 h'
 go_upto_region 2 with fail
 obtain ⟨E, hE⟩ : ∃ E, w1.heap.size = E := ⟨_, rfl⟩
 rw [hE] at hS1 ⊢
 obtain ⟨o, ho⟩ : ∃ o : OpD, (⟨0, s1, ⟨#[]⟩, ⟨#[]⟩, ⟨#[]⟩, false, false, 0, ⟨#[]⟩⟩ : OpD) = o := ⟨_, rfl⟩
 rw [ho] at hS1
 clear ho hE z1
 generalize (w1.alloc _) = w2 at hS1 ⊢
 go_wp2_with fail
 refine (below_any (by exact hS1.out.hR) 20 (by omega) (by omega)).mono ?_
 rintro e w4 ⟨v3, rfl, v30, v31, hr3, hg3⟩
 have hS4 : Hid (OS w g a n cap E o w4) := hS1.out.grow hlt.out hr3 hg3
 clear hr3 hg3 hS1
 go_upto_block 0 with fail
 go_cut [] from 9 (fun wx => ∃ o, OS w g a n cap E o wx)
 case first =>
  have hv : (v3 = 0 ∨ v3 = 1 ∨ v3 = 2 ∨ v3 = 3) ∨ v3 = 4 ∨ (v3 = 5 ∨ v3 = 6) ∨ v3 = 7 ∨ v3 = 8 ∨ v3 = 9 ∨ (v3 = 10 ∨ v3 = 11 ∨ v3 = 12) ∨ v3 = 13 ∨ v3 = 14 ∨ (v3 = 15 ∨ v3 = 16) ∨ v3 = 17 ∨ (v3 = 18 ∨ v3 = 19) := by omega
  clear v30 v31
  rcases hv with hv | rfl | hv | rfl | rfl | rfl | hv | rfl | rfl | hv | rfl | hv
  · rcases hv with rfl | rfl | rfl | rfl
    all_goals
     have hK : Hid (OS w g a n cap E ⟨1, o.vName, o.vOther, o.vWord, o.vType, o.vCapture, o.vOnce, o.vStop, o.vLname⟩ (World.setCell w4 ⟨E, 0, none⟩ (.int .i64 1))) := hS4.out.turn hlt.out (i := 0) (v := .int .i64 1) (o' := ⟨1, o.vName, o.vOther, o.vWord, o.vType, o.vCapture, o.vOnce, o.vStop, o.vLname⟩) rfl (hS4.out.fit) hS4.out.st hS4.out.wd
     have u0 := hS4.out.bE.cell 0 rfl
     have uf := hS4.out.bE.unfrozen
     have hT : Hid (OS w g a n cap E ⟨1, o.vName, o.vOther, o.vWord, o.vType, o.vCapture, o.vOnce, o.vStop, o.vLname⟩ (World.alloc (World.setCell w4 ⟨E, 0, none⟩ (.int .i64 1)) (.cells (divT.map Value.string).toArray 9))) := hK.out.below ((Below.refl _ _).alloc (Nat.le_refl _) _)
     have bx : Hid (Box (World.alloc (World.setCell w4 ⟨E, 0, none⟩ (.int .i64 1)) (.cells (divT.map Value.string).toArray 9)) w4.heap.size (divT.map Value.string) 9) := by have q := Box.new (World.setCell w4 ⟨E, 0, none⟩ (.int .i64 1)) (divT.map Value.string) 9; rw [set_size] at q; exact q
     have lx : Hid (E < w4.heap.size) := by have q := hK.out.bE.lt; rw [set_size] at q; exact q
     go_wp2_with fail
     refine (below_any (by exact hT.out.hR) 3 (by omega) (by omega)).mono ?_
     rintro e w7 ⟨v7, rfl, v70, v71, hr7, hg7⟩
     have hS7 : Hid (OS w g a n cap E ⟨1, o.vName, o.vOther, o.vWord, o.vType, o.vCapture, o.vOnce, o.vStop, o.vLname⟩ w7) := hT.out.grow hlt.out hr7 hg7
     have bx7 : Hid (Box w7 w4.heap.size (divT.map Value.string) 9) := box_other bx.out (by have := lx.out; have := hlt.out; have := hK.out.hE; omega) hg7
     obtain ⟨k, rfl⟩ := Int.eq_ofNat_of_zero_le v70
     have hk : k < divT.length := by show k < 3; omega
     have hc := box_str bx7.out k hk
     have hz : Hid (divT[k].size ≤ 3) := mem_le (by decide) k hk
     generalize divT[k] = s7 at hc hz
     have hk7 : (k : Int) < 3 := by omega
     clear hr7 hg7 bx7 hT bx u0 uf
     have u3 := hS7.out.bE.cell 3 rfl
     have uf := hS7.out.bE.unfrozen
     go_wp2_with fail
     go_meet
     exact ⟨_, hS7.out.turn hlt.out (i := 3) (v := .string s7) (o' := ⟨1, o.vName, o.vOther, s7, o.vType, o.vCapture, o.vOnce, o.vStop, o.vLname⟩) rfl ⟨hS7.out.fit.1, hS7.out.fit.2.1, (show s7.size ≤ maxLen by have := hz.out; unfold maxLen; omega), hS7.out.fit.2.2.2⟩ hS7.out.st hz.out⟩
  · have hK : Hid (OS w g a n cap E ⟨2, o.vName, o.vOther, o.vWord, o.vType, o.vCapture, o.vOnce, o.vStop, o.vLname⟩ (World.setCell w4 ⟨E, 0, none⟩ (.int .i64 2))) := hS4.out.turn hlt.out (i := 0) (v := .int .i64 2) (o' := ⟨2, o.vName, o.vOther, o.vWord, o.vType, o.vCapture, o.vOnce, o.vStop, o.vLname⟩) rfl (hS4.out.fit) hS4.out.st hS4.out.wd
    have u0 := hS4.out.bE.cell 0 rfl
    have uf := hS4.out.bE.unfrozen
    go_wp2_with fail
    go_meet
    exact ⟨_, hK.out⟩
  · rcases hv with rfl | rfl
    all_goals
     have hK : Hid (OS w g a n cap E ⟨3, o.vName, o.vOther, o.vWord, o.vType, o.vCapture, o.vOnce, o.vStop, o.vLname⟩ (World.setCell w4 ⟨E, 0, none⟩ (.int .i64 3))) := hS4.out.turn hlt.out (i := 0) (v := .int .i64 3) (o' := ⟨3, o.vName, o.vOther, o.vWord, o.vType, o.vCapture, o.vOnce, o.vStop, o.vLname⟩) rfl (hS4.out.fit) hS4.out.st hS4.out.wd
     have u0 := hS4.out.bE.cell 0 rfl
     have uf := hS4.out.bE.unfrozen
     go_wp2_with fail
     refine (name_any (by exact hK.out.hR)).mono ?_
     rintro e w5 ⟨s5, rfl, hz5, hr5, hg5⟩
     have hS5 : Hid (OS w g a n cap E ⟨3, o.vName, o.vOther, o.vWord, o.vType, o.vCapture, o.vOnce, o.vStop, o.vLname⟩ w5) := hK.out.grow hlt.out hr5 hg5
     have hN : Hid (OS w g a n cap E ⟨3, o.vName, s5, o.vWord, o.vType, o.vCapture, o.vOnce, o.vStop, o.vLname⟩ (World.setCell w5 ⟨E, 2, none⟩ (.string s5))) := hS5.out.turn hlt.out (i := 2) (v := .string s5) rfl ⟨hS5.out.fit.1, (show s5.size ≤ maxLen by unfold maxLen; omega), hS5.out.fit.2.2⟩ hS5.out.st hS5.out.wd
     clear hr5 hg5 u0 uf
     have u2 := hS5.out.bE.cell 2 rfl
     have uf := hS5.out.bE.unfrozen
     have hT : Hid (OS w g a n cap E ⟨3, o.vName, s5, o.vWord, o.vType, o.vCapture, o.vOnce, o.vStop, o.vLname⟩ (World.alloc (World.setCell w5 ⟨E, 2, none⟩ (.string s5)) (.cells (xyT.map Value.string).toArray 9))) := hN.out.below ((Below.refl _ _).alloc (Nat.le_refl _) _)
     have bx : Hid (Box (World.alloc (World.setCell w5 ⟨E, 2, none⟩ (.string s5)) (.cells (xyT.map Value.string).toArray 9)) w5.heap.size (xyT.map Value.string) 9) := by have q := Box.new (World.setCell w5 ⟨E, 2, none⟩ (.string s5)) (xyT.map Value.string) 9; rw [set_size] at q; exact q
     have lx : Hid (E < w5.heap.size) := by have q := hN.out.bE.lt; rw [set_size] at q; exact q
     go_wp2_with fail
     refine (below_any (by exact hT.out.hR) 2 (by omega) (by omega)).mono ?_
     rintro e w7 ⟨v7, rfl, v70, v71, hr7, hg7⟩
     have hS7 : Hid (OS w g a n cap E ⟨3, o.vName, s5, o.vWord, o.vType, o.vCapture, o.vOnce, o.vStop, o.vLname⟩ w7) := hT.out.grow hlt.out hr7 hg7
     have bx7 : Hid (Box w7 w5.heap.size (xyT.map Value.string) 9) := box_other bx.out (by have := lx.out; have := hlt.out; have := hN.out.hE; omega) hg7
     obtain ⟨k, rfl⟩ := Int.eq_ofNat_of_zero_le v70
     have hk : k < xyT.length := by show k < 2; omega
     have hc := box_str bx7.out k hk
     have hz : Hid (xyT[k].size ≤ 3) := mem_le (by decide) k hk
     generalize xyT[k] = s7 at hc hz
     have hk7 : (k : Int) < 2 := by omega
     clear hr7 hg7 bx7 hT bx u2 uf
     have u3 := hS7.out.bE.cell 3 rfl
     have uf := hS7.out.bE.unfrozen
     go_wp2_with fail
     go_meet
     exact ⟨_, hS7.out.turn hlt.out (i := 3) (v := .string s7) (o' := ⟨3, o.vName, s5, s7, o.vType, o.vCapture, o.vOnce, o.vStop, o.vLname⟩) rfl ⟨hS7.out.fit.1, hS7.out.fit.2.1, (show s7.size ≤ maxLen by have := hz.out; unfold maxLen; omega), hS7.out.fit.2.2.2⟩ hS7.out.st hz.out⟩
  · have hK : Hid (OS w g a n cap E ⟨4, o.vName, o.vOther, o.vWord, o.vType, o.vCapture, o.vOnce, o.vStop, o.vLname⟩ (World.setCell w4 ⟨E, 0, none⟩ (.int .i64 4))) := hS4.out.turn hlt.out (i := 0) (v := .int .i64 4) (o' := ⟨4, o.vName, o.vOther, o.vWord, o.vType, o.vCapture, o.vOnce, o.vStop, o.vLname⟩) rfl (hS4.out.fit) hS4.out.st hS4.out.wd
    have u0 := hS4.out.bE.cell 0 rfl
    have uf := hS4.out.bE.unfrozen
    go_wp2_with fail
    refine (name_any (by exact hK.out.hR)).mono ?_
    rintro e w5 ⟨s5, rfl, hz5, hr5, hg5⟩
    have hS5 : Hid (OS w g a n cap E ⟨4, o.vName, o.vOther, o.vWord, o.vType, o.vCapture, o.vOnce, o.vStop, o.vLname⟩ w5) := hK.out.grow hlt.out hr5 hg5
    have hN : Hid (OS w g a n cap E ⟨4, o.vName, s5, o.vWord, o.vType, o.vCapture, o.vOnce, o.vStop, o.vLname⟩ (World.setCell w5 ⟨E, 2, none⟩ (.string s5))) := hS5.out.turn hlt.out (i := 2) (v := .string s5) rfl ⟨hS5.out.fit.1, (show s5.size ≤ maxLen by unfold maxLen; omega), hS5.out.fit.2.2⟩ hS5.out.st hS5.out.wd
    clear hr5 hg5 u0 uf
    have u2 := hS5.out.bE.cell 2 rfl
    have uf := hS5.out.bE.unfrozen
    have hT : Hid (OS w g a n cap E ⟨4, o.vName, s5, o.vWord, o.vType, o.vCapture, o.vOnce, o.vStop, o.vLname⟩ (World.alloc (World.setCell w5 ⟨E, 2, none⟩ (.string s5)) (.cells (xyT.map Value.string).toArray 9))) := hN.out.below ((Below.refl _ _).alloc (Nat.le_refl _) _)
    have bx : Hid (Box (World.alloc (World.setCell w5 ⟨E, 2, none⟩ (.string s5)) (.cells (xyT.map Value.string).toArray 9)) w5.heap.size (xyT.map Value.string) 9) := by have q := Box.new (World.setCell w5 ⟨E, 2, none⟩ (.string s5)) (xyT.map Value.string) 9; rw [set_size] at q; exact q
    have lx : Hid (E < w5.heap.size) := by have q := hN.out.bE.lt; rw [set_size] at q; exact q
    go_wp2_with fail
    refine (below_any (by exact hT.out.hR) 2 (by omega) (by omega)).mono ?_
    rintro e w7 ⟨v7, rfl, v70, v71, hr7, hg7⟩
    have hS7 : Hid (OS w g a n cap E ⟨4, o.vName, s5, o.vWord, o.vType, o.vCapture, o.vOnce, o.vStop, o.vLname⟩ w7) := hT.out.grow hlt.out hr7 hg7
    have bx7 : Hid (Box w7 w5.heap.size (xyT.map Value.string) 9) := box_other bx.out (by have := lx.out; have := hlt.out; have := hN.out.hE; omega) hg7
    obtain ⟨k, rfl⟩ := Int.eq_ofNat_of_zero_le v70
    have hk : k < xyT.length := by show k < 2; omega
    have hc := box_str bx7.out k hk
    have hz : Hid (xyT[k].size ≤ 3) := mem_le (by decide) k hk
    generalize xyT[k] = s7 at hc hz
    have hk7 : (k : Int) < 2 := by omega
    clear hr7 hg7 bx7 hT bx u2 uf
    have u3 := hS7.out.bE.cell 3 rfl
    have uf := hS7.out.bE.unfrozen
    go_wp2_with fail
    go_meet
    exact ⟨_, hS7.out.turn hlt.out (i := 3) (v := .string s7) (o' := ⟨4, o.vName, s5, s7, o.vType, o.vCapture, o.vOnce, o.vStop, o.vLname⟩) rfl ⟨hS7.out.fit.1, hS7.out.fit.2.1, (show s7.size ≤ maxLen by have := hz.out; unfold maxLen; omega), hS7.out.fit.2.2.2⟩ hS7.out.st hz.out⟩
  · have hK : Hid (OS w g a n cap E ⟨5, o.vName, o.vOther, o.vWord, o.vType, o.vCapture, o.vOnce, o.vStop, o.vLname⟩ (World.setCell w4 ⟨E, 0, none⟩ (.int .i64 5))) := hS4.out.turn hlt.out (i := 0) (v := .int .i64 5) (o' := ⟨5, o.vName, o.vOther, o.vWord, o.vType, o.vCapture, o.vOnce, o.vStop, o.vLname⟩) rfl (hS4.out.fit) hS4.out.st hS4.out.wd
    have u0 := hS4.out.bE.cell 0 rfl
    have uf := hS4.out.bE.unfrozen
    have hT : Hid (OS w g a n cap E ⟨5, o.vName, o.vOther, o.vWord, o.vType, o.vCapture, o.vOnce, o.vStop, o.vLname⟩ (World.alloc (World.setCell w4 ⟨E, 0, none⟩ (.int .i64 5)) (.cells (xyT.map Value.string).toArray 9))) := hK.out.below ((Below.refl _ _).alloc (Nat.le_refl _) _)
    have bx : Hid (Box (World.alloc (World.setCell w4 ⟨E, 0, none⟩ (.int .i64 5)) (.cells (xyT.map Value.string).toArray 9)) w4.heap.size (xyT.map Value.string) 9) := by have q := Box.new (World.setCell w4 ⟨E, 0, none⟩ (.int .i64 5)) (xyT.map Value.string) 9; rw [set_size] at q; exact q
    have lx : Hid (E < w4.heap.size) := by have q := hK.out.bE.lt; rw [set_size] at q; exact q
    go_wp2_with fail
    refine (below_any (by exact hT.out.hR) 2 (by omega) (by omega)).mono ?_
    rintro e w7 ⟨v7, rfl, v70, v71, hr7, hg7⟩
    have hS7 : Hid (OS w g a n cap E ⟨5, o.vName, o.vOther, o.vWord, o.vType, o.vCapture, o.vOnce, o.vStop, o.vLname⟩ w7) := hT.out.grow hlt.out hr7 hg7
    have bx7 : Hid (Box w7 w4.heap.size (xyT.map Value.string) 9) := box_other bx.out (by have := lx.out; have := hlt.out; have := hK.out.hE; omega) hg7
    obtain ⟨k, rfl⟩ := Int.eq_ofNat_of_zero_le v70
    have hk : k < xyT.length := by show k < 2; omega
    have hc := box_str bx7.out k hk
    have hz : Hid (xyT[k].size ≤ 3) := mem_le (by decide) k hk
    generalize xyT[k] = s7 at hc hz
    have hk7 : (k : Int) < 2 := by omega
    clear hr7 hg7 bx7 hT bx u0 uf
    have u3 := hS7.out.bE.cell 3 rfl
    have uf := hS7.out.bE.unfrozen
    go_wp2_with fail
    go_meet
    exact ⟨_, hS7.out.turn hlt.out (i := 3) (v := .string s7) (o' := ⟨5, o.vName, o.vOther, s7, o.vType, o.vCapture, o.vOnce, o.vStop, o.vLname⟩) rfl ⟨hS7.out.fit.1, hS7.out.fit.2.1, (show s7.size ≤ maxLen by have := hz.out; unfold maxLen; omega), hS7.out.fit.2.2.2⟩ hS7.out.st hz.out⟩
  · have hK : Hid (OS w g a n cap E ⟨6, o.vName, o.vOther, o.vWord, o.vType, o.vCapture, o.vOnce, o.vStop, o.vLname⟩ (World.setCell w4 ⟨E, 0, none⟩ (.int .i64 6))) := hS4.out.turn hlt.out (i := 0) (v := .int .i64 6) (o' := ⟨6, o.vName, o.vOther, o.vWord, o.vType, o.vCapture, o.vOnce, o.vStop, o.vLname⟩) rfl (hS4.out.fit) hS4.out.st hS4.out.wd
    have u0 := hS4.out.bE.cell 0 rfl
    have uf := hS4.out.bE.unfrozen
    go_wp2_with fail
    go_meet
    exact ⟨_, hK.out⟩
  · rcases hv with rfl | rfl | rfl
    all_goals
     have hK : Hid (OS w g a n cap E ⟨7, o.vName, o.vOther, o.vWord, o.vType, o.vCapture, o.vOnce, o.vStop, o.vLname⟩ (World.setCell w4 ⟨E, 0, none⟩ (.int .i64 7))) := hS4.out.turn hlt.out (i := 0) (v := .int .i64 7) (o' := ⟨7, o.vName, o.vOther, o.vWord, o.vType, o.vCapture, o.vOnce, o.vStop, o.vLname⟩) rfl (hS4.out.fit) hS4.out.st hS4.out.wd
     have u0 := hS4.out.bE.cell 0 rfl
     have uf := hS4.out.bE.unfrozen
     go_wp2_with fail
     refine (name_any (by exact hK.out.hR)).mono ?_
     rintro e w5 ⟨s5, rfl, hz5, hr5, hg5⟩
     have hS5 : Hid (OS w g a n cap E ⟨7, o.vName, o.vOther, o.vWord, o.vType, o.vCapture, o.vOnce, o.vStop, o.vLname⟩ w5) := hK.out.grow hlt.out hr5 hg5
     have hN : Hid (OS w g a n cap E ⟨7, o.vName, s5, o.vWord, o.vType, o.vCapture, o.vOnce, o.vStop, o.vLname⟩ (World.setCell w5 ⟨E, 2, none⟩ (.string s5))) := hS5.out.turn hlt.out (i := 2) (v := .string s5) rfl ⟨hS5.out.fit.1, (show s5.size ≤ maxLen by unfold maxLen; omega), hS5.out.fit.2.2⟩ hS5.out.st hS5.out.wd
     clear hr5 hg5 u0 uf
     have u2 := hS5.out.bE.cell 2 rfl
     have uf := hS5.out.bE.unfrozen
     go_wp2_with fail
     go_meet
     exact ⟨_, hN.out⟩
  · have hK : Hid (OS w g a n cap E ⟨8, o.vName, o.vOther, o.vWord, o.vType, o.vCapture, o.vOnce, o.vStop, o.vLname⟩ (World.setCell w4 ⟨E, 0, none⟩ (.int .i64 8))) := hS4.out.turn hlt.out (i := 0) (v := .int .i64 8) (o' := ⟨8, o.vName, o.vOther, o.vWord, o.vType, o.vCapture, o.vOnce, o.vStop, o.vLname⟩) rfl (hS4.out.fit) hS4.out.st hS4.out.wd
    have u0 := hS4.out.bE.cell 0 rfl
    have uf := hS4.out.bE.unfrozen
    go_wp2_with fail
    refine (name_any (by exact hK.out.hR)).mono ?_
    rintro e w5 ⟨s5, rfl, hz5, hr5, hg5⟩
    have hS5 : Hid (OS w g a n cap E ⟨8, o.vName, o.vOther, o.vWord, o.vType, o.vCapture, o.vOnce, o.vStop, o.vLname⟩ w5) := hK.out.grow hlt.out hr5 hg5
    have hN : Hid (OS w g a n cap E ⟨8, o.vName, s5, o.vWord, o.vType, o.vCapture, o.vOnce, o.vStop, o.vLname⟩ (World.setCell w5 ⟨E, 2, none⟩ (.string s5))) := hS5.out.turn hlt.out (i := 2) (v := .string s5) rfl ⟨hS5.out.fit.1, (show s5.size ≤ maxLen by unfold maxLen; omega), hS5.out.fit.2.2⟩ hS5.out.st hS5.out.wd
    clear hr5 hg5 u0 uf
    have u2 := hS5.out.bE.cell 2 rfl
    have uf := hS5.out.bE.unfrozen
    go_wp2_with fail
    go_meet
    exact ⟨_, hN.out⟩
  · have hK : Hid (OS w g a n cap E ⟨9, o.vName, o.vOther, o.vWord, o.vType, o.vCapture, o.vOnce, o.vStop, o.vLname⟩ (World.setCell w4 ⟨E, 0, none⟩ (.int .i64 9))) := hS4.out.turn hlt.out (i := 0) (v := .int .i64 9) (o' := ⟨9, o.vName, o.vOther, o.vWord, o.vType, o.vCapture, o.vOnce, o.vStop, o.vLname⟩) rfl (hS4.out.fit) hS4.out.st hS4.out.wd
    have u0 := hS4.out.bE.cell 0 rfl
    have uf := hS4.out.bE.unfrozen
    go_wp2_with fail
    go_meet
    exact ⟨_, hK.out⟩
  · rcases hv with rfl | rfl
    all_goals
     have hK : Hid (OS w g a n cap E ⟨10, o.vName, o.vOther, o.vWord, o.vType, o.vCapture, o.vOnce, o.vStop, o.vLname⟩ (World.setCell w4 ⟨E, 0, none⟩ (.int .i64 10))) := hS4.out.turn hlt.out (i := 0) (v := .int .i64 10) (o' := ⟨10, o.vName, o.vOther, o.vWord, o.vType, o.vCapture, o.vOnce, o.vStop, o.vLname⟩) rfl (hS4.out.fit) hS4.out.st hS4.out.wd
     have u0 := hS4.out.bE.cell 0 rfl
     have uf := hS4.out.bE.unfrozen
     go_wp2_with fail
     go_meet
     exact ⟨_, hK.out⟩
  · have hK : Hid (OS w g a n cap E ⟨11, o.vName, o.vOther, o.vWord, o.vType, o.vCapture, o.vOnce, o.vStop, o.vLname⟩ (World.setCell w4 ⟨E, 0, none⟩ (.int .i64 11))) := hS4.out.turn hlt.out (i := 0) (v := .int .i64 11) (o' := ⟨11, o.vName, o.vOther, o.vWord, o.vType, o.vCapture, o.vOnce, o.vStop, o.vLname⟩) rfl (hS4.out.fit) hS4.out.st hS4.out.wd
    have u0 := hS4.out.bE.cell 0 rfl
    have uf := hS4.out.bE.unfrozen
    go_wp2_with fail
    refine (name_any (by exact hK.out.hR)).mono ?_
    rintro e w5 ⟨s5, rfl, hz5, hr5, hg5⟩
    have hS5 : Hid (OS w g a n cap E ⟨11, o.vName, o.vOther, o.vWord, o.vType, o.vCapture, o.vOnce, o.vStop, o.vLname⟩ w5) := hK.out.grow hlt.out hr5 hg5
    have hN : Hid (OS w g a n cap E ⟨11, o.vName, s5, o.vWord, o.vType, o.vCapture, o.vOnce, o.vStop, o.vLname⟩ (World.setCell w5 ⟨E, 2, none⟩ (.string s5))) := hS5.out.turn hlt.out (i := 2) (v := .string s5) rfl ⟨hS5.out.fit.1, (show s5.size ≤ maxLen by unfold maxLen; omega), hS5.out.fit.2.2⟩ hS5.out.st hS5.out.wd
    clear hr5 hg5 u0 uf
    have u2 := hS5.out.bE.cell 2 rfl
    have uf := hS5.out.bE.unfrozen
    go_wp2_with fail
    go_meet
    exact ⟨_, hN.out⟩
  · rcases hv with rfl | rfl
    all_goals
     have hK : Hid (OS w g a n cap E ⟨12, o.vName, o.vOther, o.vWord, o.vType, o.vCapture, o.vOnce, o.vStop, o.vLname⟩ (World.setCell w4 ⟨E, 0, none⟩ (.int .i64 12))) := hS4.out.turn hlt.out (i := 0) (v := .int .i64 12) (o' := ⟨12, o.vName, o.vOther, o.vWord, o.vType, o.vCapture, o.vOnce, o.vStop, o.vLname⟩) rfl (hS4.out.fit) hS4.out.st hS4.out.wd
     have u0 := hS4.out.bE.cell 0 rfl
     have uf := hS4.out.bE.unfrozen
     go_wp2_with fail
     refine (listener_any (by exact hK.out.hR)).mono ?_
     rintro e w5 ⟨x5, rfl, hx1, hx2, hx3, hr5, hg5⟩
     have hS5 : Hid (OS w g a n cap E ⟨12, o.vName, o.vOther, o.vWord, o.vType, o.vCapture, o.vOnce, o.vStop, o.vLname⟩ w5) := hK.out.grow hlt.out hr5 hg5
     clear hr5 hg5 u0 uf
     have u4 := hS5.out.bE.cell 4 rfl
     have u5 := hS5.out.bE.cell 5 rfl
     have u6 := hS5.out.bE.cell 6 rfl
     have u7 := hS5.out.bE.cell 7 rfl
     have u8 := hS5.out.bE.cell 8 rfl
     have uf := hS5.out.bE.unfrozen
     have hL := hS5.out.lis hlt.out x5 hx1 hx2 hx3
     go_wp2_with fail
     go_meet
     exact ⟨_, hL⟩
 case rest =>
  obtain ⟨o5, hS5⟩ := hcut
  have hS6 : Hid (OS w g a n cap E o5 wc) := hS5
  clear hS5 hS4
  go_wp2_with fail
  refine (once_any (by exact hS6.out.hR) 40 (by omega) (by omega)).mono ?_
  rintro e w6 ⟨b6, rfl, hr6, hg6⟩
  have hS7 : Hid (OS w g a n cap E o5 w6) := hS6.out.grow hlt.out hr6 hg6
  clear hr6 hg6 hS6
  go_upto_if 93 with fail
  go_cut [] from 94 (fun wx => ∃ o, OS w g a n cap E o wx)
  case first =>
   cases b6
   · go_wp2_with fail
     go_meet
     exact ⟨_, hS7.out⟩
   · have hT : Hid (OS w g a n cap E o5 (World.alloc w6 (.cells (oddT.map Value.string).toArray 9))) := hS7.out.below ((Below.refl _ _).alloc (Nat.le_refl _) _)
     have bx : Hid (Box (World.alloc w6 (.cells (oddT.map Value.string).toArray 9)) w6.heap.size (oddT.map Value.string) 9) := Box.new w6 _ _
     have lx : Hid (E < w6.heap.size) := hS7.out.bE.lt
     go_wp2_with fail
     refine (below_any (by exact hT.out.hR) 3 (by omega) (by omega)).mono ?_
     rintro e w7 ⟨v7, rfl, v70, v71, hr7, hg7⟩
     have hS8 : Hid (OS w g a n cap E o5 w7) := hT.out.grow hlt.out hr7 hg7
     have bx7 : Hid (Box w7 w6.heap.size (oddT.map Value.string) 9) := box_other bx.out (by have := lx.out; have := hlt.out; have := hS7.out.hE; omega) hg7
     obtain ⟨k, rfl⟩ := Int.eq_ofNat_of_zero_le v70
     have hk : k < oddT.length := by show k < 3; omega
     have hc := box_str bx7.out k hk
     have hz : Hid (oddT[k].size ≤ 7) := mem_le (by decide) k hk
     generalize oddT[k] = s7 at hc hz
     have hk7 : (k : Int) < 3 := by omega
     clear hr7 hg7 bx7 hT bx
     have u1 := hS8.out.bE.cell 1 rfl
     have uf := hS8.out.bE.unfrozen
     go_wp2_with fail
     go_meet
     exact ⟨_, hS8.out.turn hlt.out (i := 1) (v := .string s7) (o' := ⟨o5.vKind, s7, o5.vOther, o5.vWord, o5.vType, o5.vCapture, o5.vOnce, o5.vStop, o5.vLname⟩) rfl ⟨(show s7.size ≤ maxLen by have := hz.out; unfold maxLen; omega), hS8.out.fit.2⟩ hS8.out.st hS8.out.wd⟩
  case rest =>
   obtain ⟨o8, hS9⟩ := hcut
   have hS8 : Hid (OS w g a n cap E o8 wc) := hS9
   clear hS9 hS7
   have u0 := hS8.out.bE.cell 0 rfl
   have u1 := hS8.out.bE.cell 1 rfl
   have u2 := hS8.out.bE.cell 2 rfl
   have u3 := hS8.out.bE.cell 3 rfl
   have u4 := hS8.out.bE.cell 4 rfl
   have u5 := hS8.out.bE.cell 5 rfl
   have u6 := hS8.out.bE.cell 6 rfl
   have u7 := hS8.out.bE.cell 7 rfl
   have u8 := hS8.out.bE.cell 8 rfl
   have z0 := hS8.out.bR.cell 0 rfl
   have z1 := hS8.out.bR.cell 1 rfl
   have z2 := hS8.out.bR.cell 2 rfl
   have z3 := hS8.out.bR.cell 3 rfl
   have z4 := hS8.out.bR.cell 4 rfl
   have z5 := hS8.out.bR.cell 5 rfl
   have z6 := hS8.out.bR.cell 6 rfl
   have z7 := hS8.out.bR.cell 7 rfl
   have z8 := hS8.out.bR.cell 8 rfl
   have uz := hS8.out.bR.unfrozen
   go_wp2_with fail
   have hF : Box (putCells wc w.heap.size 0 (cOp o8.vKind o8)) w.heap.size (cOp o8.vKind o8) 91 := Box.puts9 hS8.out.bR
   have g0 := hF.cell 0 rfl
   have g1 := hF.cell 1 rfl
   have g2 := hF.cell 2 rfl
   have g3 := hF.cell 3 rfl
   have g4 := hF.cell 4 rfl
   have g5 := hF.cell 5 rfl
   have g6 := hF.cell 6 rfl
   have g7 := hF.cell 7 rfl
   have g8 := hF.cell 8 rfl
   have hgf : w.grownBy (putCells wc w.heap.size 0 (cOp o8.vKind o8)) (some g) := grown_putsO _ hS8.out.hG (Nat.le_refl _)
   have hrf : RdAt (putCells wc w.heap.size 0 (cOp o8.vKind o8)) g a n cap := hS8.out.hR.keep (fun b hb => putCells_other _ _ _ _ _ (by have := hlt.out; omega))
   exact bodyPost_ret (v := .agg (List.toArray (cOp o8.vKind o8))) (by simp only [putCells] at g0 g1 g2 g3 g4 g5 g6 g7 g8; simp [results, Tryz.results45, go_sem, g0, g1, g2, g3, g4, g5, g6, g7, g8]) rfl ⟨o8, rfl, hS8.out.fit, hS8.out.st, hS8.out.wd, hrf, hgf⟩
end Go.Proofs.YtdnembnlomnceaaGreat
