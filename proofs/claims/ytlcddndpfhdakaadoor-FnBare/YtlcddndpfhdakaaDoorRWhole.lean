/- readWhole of the program at this type: walked. -/
import Derived.Test.YtlcddndpfhdakaaDoorRmImpl
import Derived.Defers
import Derived.Recover
namespace Go.Proofs.YtlcddndpfhdakaaDoor
open Go.RowKit Go.Deep
abbrev zT : Obj := .cells #[.string ⟨#[]⟩, .string ⟨#[]⟩, .slice none 0 0, .slice none 0 0] 27
abbrev catchW (w : World) (b1 b2 : Nat) : World := (((((w.alloc zT).setCell ⟨b1, 0, none⟩ (.string ⟨#[]⟩)).setCell ⟨b1, 1, none⟩ (.string ⟨#[]⟩)).setCell ⟨b1, 2, none⟩ (.slice none 0 0)).setCell ⟨b1, 3, none⟩ (.slice none 0 0)).setCell ⟨b2, 0, none⟩ (.bool false)
set_option maxHeartbeats 2000000 in
theorem catch_thrown {w : World} {b1 b2 : Nat} {x0 x1 x2 x3 v : Value} (h1 : Box w b1 [x0, x1, x2, x3] 27) (h2 : Box w b2 [v] 4) (hne : b1 ≠ b2) (u : TypeId) (pv : Value) (older : List PanicEntry) :
    CallsD Tryd.prog 51 #[.pointer (some ⟨b1, 0, none⟩), .pointer (some ⟨b2, 0, none⟩)] (.panicking ({ v := .iface u pv, recovered := false } :: older)) w fun e u' w' =>
      e = .returned (.tuple #[]) ∧ u' = .panicking ({ v := .iface u pv, recovered := true } :: older) ∧ w' = catchW w b1 b2 := by
  refine callsD_of_wpS Tryd.func51 rfl fun c₀ cs hu => ?_
  apply wpS_seq
  apply wpS_region
  simp [wpOpsS, go_sem, recoverD, hu, Tryd.ntmps51, Exit.thenS]
  refine wpS_cond (t := true) (by simp [Act.eval, Array.replicate]) ?_
  simp only [if_true]
  apply wpS_seq
  apply wpS_region
  simp [wpOpsS, go_sem, Exit.thenS]
  apply wpS_region
  have a1 : Box (w.alloc zT) b1 [x0, x1, x2, x3] 27 := h1.alloc _
  have a2 : Box (w.alloc zT) b2 [v] 4 := h2.alloc _
  have e0 := a1.cell 0 rfl
  have f0 := a1.unfrozen 0
  have s0 := Box.set (i := 0) a1 (.string ⟨#[]⟩)
  have t0 := Box.other (i := 0) a2 (Ne.symm hne) (.string ⟨#[]⟩)
  have e1 := s0.cell 1 rfl
  have f1 := s0.unfrozen 1
  have s1 := Box.set (i := 1) s0 (.string ⟨#[]⟩)
  have t1 := Box.other (i := 1) t0 (Ne.symm hne) (.string ⟨#[]⟩)
  have e2 := s1.cell 2 rfl
  have f2 := s1.unfrozen 2
  have s2 := Box.set (i := 2) s1 (.slice none 0 0)
  have t2 := Box.other (i := 2) t1 (Ne.symm hne) (.slice none 0 0)
  have e3 := s2.cell 3 rfl
  have f3 := s2.unfrozen 3
  have s3 := Box.set (i := 3) s2 (.slice none 0 0)
  have t3 := Box.other (i := 3) t2 (Ne.symm hne) (.slice none 0 0)
  have eb := t3.cell 0 rfl
  have fb := t3.unfrozen 0
  simp [wpOpsS, go_sem, e0, f0, e1, f1, e2, f2, e3, f3, eb, fb, bodyPostS, results, Tryd.results51]
set_option maxHeartbeats 1000000 in
theorem catch_idle (p q : Addr) (w : World) :
    CallsD Tryd.prog 51 #[.pointer (some p), .pointer (some q)] .returning w fun e u' w' => e = .returned (.tuple #[]) ∧ u' = .returning ∧ w' = w := by
  refine callsD_of_wpS Tryd.func51 rfl fun c₀ cs hu => ?_
  apply wpS_seq
  apply wpS_region
  simp [wpOpsS, go_sem, recoverD, hu, Tryd.ntmps51, Exit.thenS]
  refine wpS_cond (t := false) (by simp [Act.eval, Array.replicate]) ?_
  simp only [Bool.false_eq_true, if_false]
  refine wpS_of_wp (wp_skip ?_)
  cases c₀
  simp_all [bodyPostS, results, Tryd.results51]
theorem catch_facts {w : World} {b1 b2 : Nat} {x0 x1 x2 x3 v : Value} (h1 : Box w b1 [x0, x1, x2, x3] 27) (h2 : Box w b2 [v] 4) (hne : b1 ≠ b2) : Box (catchW w b1 b2) b1 [.string ⟨#[]⟩, .string ⟨#[]⟩, .slice none 0 0, .slice none 0 0] 27 ∧ Box (catchW w b1 b2) b2 [.bool false] 4 ∧ ∀ B, B ≤ b1 → B ≤ b2 → Below B w (catchW w b1 b2) := by
  have a1 : Box (w.alloc zT) b1 [x0, x1, x2, x3] 27 := h1.alloc _
  have a2 : Box (w.alloc zT) b2 [v] 4 := h2.alloc _
  have s0 := Box.set (i := 0) a1 (.string ⟨#[]⟩)
  have t0 := Box.other (i := 0) a2 (Ne.symm hne) (.string ⟨#[]⟩)
  have s1 := Box.set (i := 1) s0 (.string ⟨#[]⟩)
  have t1 := Box.other (i := 1) t0 (Ne.symm hne) (.string ⟨#[]⟩)
  have s2 := Box.set (i := 2) s1 (.slice none 0 0)
  have t2 := Box.other (i := 2) t1 (Ne.symm hne) (.slice none 0 0)
  have s3 := Box.set (i := 3) s2 (.slice none 0 0)
  have t3 := Box.other (i := 3) t2 (Ne.symm hne) (.slice none 0 0)
  refine ⟨Box.other s3 hne _, Box.set (i := 0) t3 _, fun B q1 q2 => ?_⟩
  have hb0 : Below B w (w.alloc zT) := (Below.refl _ _).alloc (Nat.le_of_lt (Nat.lt_of_le_of_lt q1 h1.lt)) _
  exact ((((hb0.setCell (p := ⟨b1, 0, none⟩) q1 _).setCell (p := ⟨b1, 1, none⟩) q1 _).setCell (p := ⟨b1, 2, none⟩) q1 _).setCell (p := ⟨b1, 3, none⟩) q1 _).setCell (p := ⟨b2, 0, none⟩) q2 _
theorem bel_grown {w w0 w1 : World} {g : Nat} (hb : Below w.heap.size w w0) (hs : w.heap.size ≤ w0.heap.size) (hg : w0.grownBy w1 (some g)) (hgl : w.heap.size ≤ g) : Below w.heap.size w w1 :=
  ⟨hg.os.trans hb.os, hg.tape.trans hb.tape, hg.output.trans hb.output, Nat.le_trans hs hg.size, fun b h => (hg.block b (Nat.lt_of_lt_of_le h hs) (fun e => by injection e; omega)).trans (hb.block b h)⟩
theorem fall_below {w w0 w1 w2 : World} {g b1 b2 : Nat} (hb : Below w.heap.size w w0) (hs : w.heap.size ≤ w0.heap.size) (hg : w0.grownBy w1 (some g)) (hgl : w.heap.size ≤ g) (zb : ∀ B, B ≤ b1 → B ≤ b2 → Below B w1 w2) (h1 : w.heap.size ≤ b1 := by omega) (h2 : w.heap.size ≤ b2 := by omega) : Below w.heap.size w w2 :=
  (bel_grown hb hs hg hgl).trans (zb _ h1 h2)
theorem fall_below2 {w w1 w2 : World} {b1 b2 : Nat} (hb : Below w.heap.size w w1) (zb : ∀ B, B ≤ b1 → B ≤ b2 → Below B w1 w2) (h1 : w.heap.size ≤ b1 := by omega) (h2 : w.heap.size ≤ b2 := by omega) : Below w.heap.size w w2 :=
  hb.trans (zb _ h1 h2)
/-- what is read of a whole text -/
def RdW (s : ByteArray) (x : MarkD) (b : Bool) : Prop := (b = true ∧ s.size ≤ 5000 ∧ CanM 31 x ∧ s.data.toList = mtD 31 x ∧ ∀ m y d, Md m y d s.data.toList [] → d ≤ 30 → x = y) ∨ (b = false ∧ x = zeroM ∧ (s.size ≤ 5000 → ∀ m y d, Md m y d s.data.toList [] → ¬ d ≤ 30))
set_option maxRecDepth 100000 in
set_option maxHeartbeats 4000000 in
theorem readWhole_any {w : World} {s : ByteArray} (hs : s.size ≤ 1048576) (hsg : Signs w) :
    Calls Tryd.prog 27 #[.string s, .int .i64 5000, .func (.func 28) #[] #[]] w fun e w' => ∃ (kt ku : ByteArray) (a2 : Option Addr) (l2 c2 : Nat) (a3 : Option Addr) (l3 c3 : Nat) (x : MarkD) (fs : List Nat) (b : Bool), e = .returned (.tuple #[.agg (List.toArray [.string kt, .string ku, .slice a2 l2 c2, .slice a3 l3 c3]), .bool b]) ∧ MarkOwn 31 w' [.string kt, .string ku, .slice a2 l2 c2, .slice a3 l3 c3] x fs ∧ fs.Nodup ∧ (∀ b ∈ fs, w.heap.size ≤ b) ∧ RdW s x b ∧ Below w.heap.size w w' := by
  have hmf : ∀ (fn : Fn) (first cap : Array Value) (w : World), (Instr.makeFunc fn first cap).run Tryd.prog w = .ok (.func fn first cap) w := fun _ _ _ _ => rfl
  have hss : Hid (s.size ≤ 1048576) := hs
  clear hs
  by_cases hl : (5000 : Int) < s.size
  · have hno : Hid (RdW s zeroM false) := Or.inr ⟨rfl, rfl, fun h => by omega⟩
    go_enter_defers Tryd.func27, Tryd.ntmps27
    go_wp2
    refine ⟨.tuple #[.agg (List.toArray [.string ⟨#[]⟩, .string ⟨#[]⟩, .slice none 0 0, .slice none 0 0]), .bool false], by simp [results, Tryd.results27, go_sem], ?_⟩
    exact ⟨_, _, _, _, _, _, _, _, zeroM, [], false, rfl, MarkOwn_text 30 _ ⟨#[]⟩ (Nat.zero_le _), List.nodup_nil, by simp, hno.out, ((Below.refl _ _).alloc (Nat.le_refl _) _).alloc (by simp) _⟩
  · have hb0 : Hid (Below w.heap.size w (((w.alloc zT).alloc (.cells #[.bool false] 4)).alloc (.cells #[.string s, .int .i64 0, .int .i64 30] 72))) := (((Below.refl _ _).alloc (Nat.le_refl _) _).alloc (by simp) _).alloc (by simp; omega) _
    have hsz0 : (((w.alloc zT).alloc (.cells #[.bool false] 4)).alloc (.cells #[.string s, .int .i64 0, .int .i64 30] 72)).heap.size = w.heap.size + 3 := by simp
    have x1 : Hid (Box (((w.alloc zT).alloc (.cells #[.bool false] 4)).alloc (.cells #[.string s, .int .i64 0, .int .i64 30] 72)) w.heap.size [.string ⟨#[]⟩, .string ⟨#[]⟩, .slice none 0 0, .slice none 0 0] 27) := ((Box.new w _ _).alloc _).alloc _
    have x2 : Hid (Box (((w.alloc zT).alloc (.cells #[.bool false] 4)).alloc (.cells #[.string s, .int .i64 0, .int .i64 30] 72)) (w.heap.size + 1) [.bool false] 4) := by have := (Box.new (w.alloc zT) [.bool false] 4).alloc (.cells #[.string s, .int .i64 0, .int .i64 30] 72); simpa [Hid] using this
    have x3 : Hid (TrAt (((w.alloc zT).alloc (.cells #[.bool false] 4)).alloc (.cells #[.string s, .int .i64 0, .int .i64 30] 72)) (w.heap.size + 1 + 1) s 0 30) := by have := Box.new ((w.alloc zT).alloc (.cells #[.bool false] 4)) [.string s, .int .i64 0, .int .i64 30] 72; simpa [Hid, TrAt] using this
    have hrest : Hid (rest s 0 = s.data.toList) := by show _ = _; simp [rest]
    have hsgW : Hid (Signs (((w.alloc zT).alloc (.cells #[.bool false] 4)).alloc (.cells #[.string s, .int .i64 0, .int .i64 30] 72))) := Signs.all hsg hb0.out
    clear hsg
    go_enter_defers Tryd.func27, Tryd.ntmps27
    go_wp2_with fail
    refine (tmF_all 30 (by omega) _ _ s 0 x3.out (Nat.zero_le _) hss.out hsgW.out).mono ?_
    intro e w1 hor
    rcases hor with hyes | ⟨rfl, hg1, hno⟩
    rotate_left
    · have hno' : Hid (RdW s zeroM false) := Or.inr ⟨rfl, rfl, fun _ m y d h => hno m y d _ (by rw [hrest.out]; exact h)⟩
      have hg1' : Hid ((((w.alloc zT).alloc (.cells #[.bool false] 4)).alloc (.cells #[.string s, .int .i64 0, .int .i64 30] 72)).grownBy w1 (some (w.heap.size + 1 + 1))) := hg1
      have y1 : Hid (Box w1 w.heap.size [.string ⟨#[]⟩, .string ⟨#[]⟩, .slice none 0 0, .slice none 0 0] 27) := box_grown x1.out (by omega) hg1
      have y2 : Hid (Box w1 (w.heap.size + 1) [.bool false] 4) := box_grown x2.out (by omega) hg1
      clear hno hg1
      go_wp2_with fail
      refine leaves_cons (f := 51) (args := #[.pointer (some ⟨w.heap.size, 0, none⟩), .pointer (some ⟨w.heap.size + 1, 0, none⟩)]) (by simp) (by simp [go_sem]) ?_
      refine (catch_thrown y1.out y2.out (by omega) _ _ _).mono ?_
      rintro e u' w'' ⟨rfl, rfl, rfl⟩
      obtain ⟨z1, z2, zb⟩ := catch_facts y1.out y2.out (by omega)
      have z10 := z1.cell 0 rfl
      have z11 := z1.cell 1 rfl
      have z12 := z1.cell 2 rfl
      have z13 := z1.cell 3 rfl
      have z20 := z2.cell 0 rfl
      refine (show Leaves Tryd.prog _ _ _ [] FrameMode.returning _ from ⟨.tuple #[.agg (List.toArray [.string ⟨#[]⟩, .string ⟨#[]⟩, .slice none 0 0, .slice none 0 0]), .bool false], ?_, ?_⟩)
      · simp [results, Tryd.results27, go_sem, z10, z11, z12, z13, z20]
      · exact ⟨_, _, _, _, _, _, _, _, zeroM, [], false, rfl, MarkOwn_text 30 _ ⟨#[]⟩ (Nat.zero_le _), List.nodup_nil, by simp, hno'.out, fall_below hb0.out (by rw [hsz0]; omega) hg1'.out (by omega) zb⟩
    · obtain ⟨cs, x, fs, c, p', rfl, hto, hnd, hlo, htr, _, hc, hp, _, hcan, hsnd, hcmp, hg1⟩ := hyes
      obtain ⟨kt, ku, a2, l2, c2, a3, l3, c3, rfl⟩ := hto.form4
      have hgd : CanM 31 x ∧ rest s 0 = mtD 31 x ++ rest s p' ∧ ∀ m y d r, Md m y d (rest s 0) r → d ≤ 30 → x = y ∧ rest s p' = r := ⟨CanM.up _ _ hcan, by rw [mtD_up _ _ hcan]; exact hsnd, fun m y d r h hd => ⟨(hcmp m y d r h hd).1, (hcmp m y d r h hd).2.2⟩⟩
      clear hcan hsnd hcmp
      have y1 : Hid (Box w1 w.heap.size [.string ⟨#[]⟩, .string ⟨#[]⟩, .slice none 0 0, .slice none 0 0] 27) := box_grown x1.out (by omega) hg1
      have y2 : Hid (Box w1 (w.heap.size + 1) [.bool false] 4) := box_grown x2.out (by omega) hg1
      have hto' : Hid (MarkOwn 31 w1 [.string kt, .string ku, .slice a2 l2 c2, .slice a3 l3 c3] x fs) := MarkOwn_mono (by omega) hto
      have hnd' : Hid fs.Nodup := hnd
      have hlo' : Hid (∀ b ∈ fs, w.heap.size + 3 + 1 ≤ b) := by rw [hsz0] at hlo; exact hlo
      have hgd' : Hid (CanM 31 x ∧ s.data.toList = mtD 31 x ++ rest s p' ∧ ∀ m y d r, Md m y d s.data.toList r → d ≤ 30 → x = y ∧ rest s p' = r) := by rw [← hrest.out]; exact hgd
      have hg1' : Hid ((((w.alloc zT).alloc (.cells #[.bool false] 4)).alloc (.cells #[.string s, .int .i64 0, .int .i64 30] 72)).grownBy w1 (some (w.heap.size + 1 + 1))) := hg1
      have htr0 := htr
      have htr' : Hid (TrAt w1 (w.heap.size + 1 + 1) s p' (30 - c)) := htr0
      have r0 := y1.out.cell 0 rfl
      have r1 := y1.out.cell 1 rfl
      have r2 := y1.out.cell 2 rfl
      have r3 := y1.out.cell 3 rfl
      have fR := y1.out.unfrozen
      clear hto hnd hlo hgd hg1 htr htr0
      go_wp2_with fail
      have htr5 : Hid (TrAt (putCells w1 w.heap.size 0 [.string kt, .string ku, .slice a2 l2 c2, .slice a3 l3 c3]) (w.heap.size + 1 + 1) s p' (30 - c)) := (putCells_other [.string kt, .string ku, .slice a2 l2 c2, .slice a3 l3 c3] w1 w.heap.size 0 (w.heap.size + 1 + 1) (by omega)).trans htr'.out
      have v1 : Hid (Box (putCells w1 w.heap.size 0 [.string kt, .string ku, .slice a2 l2 c2, .slice a3 l3 c3]) w.heap.size [.string kt, .string ku, .slice a2 l2 c2, .slice a3 l3 c3] 27) := (Box.set (i := 3) (Box.set (i := 2) (Box.set (i := 1) (Box.set (i := 0) y1.out (.string kt)) (.string ku)) (.slice a2 l2 c2)) (.slice a3 l3 c3))
      have v2 : Hid (Box (putCells w1 w.heap.size 0 [.string kt, .string ku, .slice a2 l2 c2, .slice a3 l3 c3]) (w.heap.size + 1) [.bool false] 4) := (putCells_other [.string kt, .string ku, .slice a2 l2 c2, .slice a3 l3 c3] w1 w.heap.size 0 (w.heap.size + 1) (by omega)).trans y2.out
      have hb5 : Hid (Below w.heap.size w (putCells w1 w.heap.size 0 [.string kt, .string ku, .slice a2 l2 c2, .slice a3 l3 c3])) := putCells_below _ _ _ _ _ _ (Nat.le_refl _) (bel_grown hb0.out (by rw [hsz0]; omega) hg1'.out (by omega))
      have hto5 : Hid (MarkOwn 31 (putCells w1 w.heap.size 0 [.string kt, .string ku, .slice a2 l2 c2, .slice a3 l3 c3]) [.string kt, .string ku, .slice a2 l2 c2, .slice a3 l3 c3] x fs) := MarkOwn_stays _ _ _ _ _ _ (fun b q => putCells_other _ _ _ _ _ (by have := hlo'.out b q; omega)) hto'.out
      have hu : ((((w1.setCell ⟨w.heap.size, 0, none⟩ (.string kt)).setCell ⟨w.heap.size, 1, none⟩ (.string ku)).setCell ⟨w.heap.size, 2, none⟩ (.slice a2 l2 c2)).setCell ⟨w.heap.size, 3, none⟩ (.slice a3 l3 c3)) = putCells w1 w.heap.size 0 [.string kt, .string ku, .slice a2 l2 c2, .slice a3 l3 c3] := rfl
      rw [hu]
      generalize putCells w1 w.heap.size 0 [.string kt, .string ku, .slice a2 l2 c2, .slice a3 l3 c3] = w5 at *
      clear hu r0 r1 r2 r3 fR y1 y2 x1 x2 x3 hto' htr' hg1' hb0
      by_cases hpe : p' < s.size
      · have hno' : Hid (RdW s zeroM false) := Or.inr ⟨rfl, rfl, fun _ m y d h hd => by
          have h0 := (hgd'.out.2.2 m y d [] h hd).2
          have h1 := congrArg List.length h0
          rw [rest, List.length_drop, bd_len, List.length_nil] at h1
          omega⟩
        refine (end_no htr5.out hpe).mono ?_
        rintro e w6 ⟨rfl, n6, rfl⟩
        have y1 : Hid (Box (w5.drewN n6) w.heap.size [.string kt, .string ku, .slice a2 l2 c2, .slice a3 l3 c3] 27) := v1.out
        have y2 : Hid (Box (w5.drewN n6) (w.heap.size + 1) [.bool false] 4) := v2.out
        have hb6 : Hid (Below w.heap.size w (w5.drewN n6)) := ⟨hb5.out.os, hb5.out.tape, hb5.out.output, hb5.out.size, hb5.out.block⟩
        clear v1 v2 hb5 htr5 hto5
        go_wp2_with fail
        refine leaves_cons (f := 51) (args := #[.pointer (some ⟨w.heap.size, 0, none⟩), .pointer (some ⟨w.heap.size + 1, 0, none⟩)]) (by simp) (by simp [go_sem]) ?_
        refine (catch_thrown y1.out y2.out (by omega) _ _ _).mono ?_
        rintro e u' w'' ⟨rfl, rfl, rfl⟩
        obtain ⟨z1, z2, zb⟩ := catch_facts y1.out y2.out (by omega)
        have z10 := z1.cell 0 rfl
        have z11 := z1.cell 1 rfl
        have z12 := z1.cell 2 rfl
        have z13 := z1.cell 3 rfl
        have z20 := z2.cell 0 rfl
        refine (show Leaves Tryd.prog _ _ _ [] FrameMode.returning _ from ⟨.tuple #[.agg (List.toArray [.string ⟨#[]⟩, .string ⟨#[]⟩, .slice none 0 0, .slice none 0 0]), .bool false], ?_, ?_⟩)
        · simp [results, Tryd.results27, go_sem, z10, z11, z12, z13, z20]
        · exact ⟨_, _, _, _, _, _, _, _, zeroM, [], false, rfl, MarkOwn_text 30 _ ⟨#[]⟩ (Nat.zero_le _), List.nodup_nil, by simp, hno'.out, fall_below2 hb6.out zb⟩
      · obtain rfl : p' = s.size := by omega
        have hyes : Hid (RdW s x true) := Or.inl ⟨rfl, by omega, hgd'.out.1, by have h0 := hgd'.out.2.1; rwa [show rest s s.size = [] from by unfold rest; rw [List.drop_of_length_le (by rw [bd_len]; exact Nat.le_refl _)], List.append_nil] at h0, fun m y d h hd => (hgd'.out.2.2 m y d [] h hd).1⟩
        refine (end_yes htr5.out).mono ?_
        rintro e w6 ⟨rfl, n6, rfl⟩
        have y1 : Hid (Box (w5.drewN n6) w.heap.size [.string kt, .string ku, .slice a2 l2 c2, .slice a3 l3 c3] 27) := v1.out
        have y2 : Hid (Box (w5.drewN n6) (w.heap.size + 1) [.bool false] 4) := v2.out
        have hb6 : Hid (Below w.heap.size w (w5.drewN n6)) := ⟨hb5.out.os, hb5.out.tape, hb5.out.output, hb5.out.size, hb5.out.block⟩
        have hto6 : Hid (MarkOwn 31 (w5.drewN n6) [.string kt, .string ku, .slice a2 l2 c2, .slice a3 l3 c3] x fs) := MarkOwn_stays _ _ _ _ _ _ (fun b q => rfl) hto5.out
        clear v1 v2 hb5 htr5 hto5
        have r0 := y1.out.cell 0 rfl
        have r1 := y1.out.cell 1 rfl
        have r2 := y1.out.cell 2 rfl
        have r3 := y1.out.cell 3 rfl
        have fR := y1.out.unfrozen
        have rb := y2.out.cell 0 rfl
        have fB := y2.out.unfrozen
        have hne1 : ¬ w.heap.size = w.heap.size + 1 := by omega
        go_wp2_with fail
        refine leaves_cons (f := 51) (args := #[.pointer (some ⟨w.heap.size, 0, none⟩), .pointer (some ⟨w.heap.size + 1, 0, none⟩)]) (by simp) (by simp [go_sem]) ?_
        refine (catch_idle ⟨w.heap.size, 0, none⟩ ⟨w.heap.size + 1, 0, none⟩ _).mono ?_
        rintro e u' w'' ⟨rfl, rfl, rfl⟩
        have z1 := Box.other (g' := w.heap.size + 1) (i := 0) (Box.set (i := 3) (Box.set (i := 2) (Box.set (i := 1) (Box.set (i := 0) y1.out (.string kt)) (.string ku)) (.slice a2 l2 c2)) (.slice a3 l3 c3)) (by omega) (.bool true)
        have z2 := Box.set (i := 0) (Box.other (g' := w.heap.size) (i := 3) (Box.other (g' := w.heap.size) (i := 2) (Box.other (g' := w.heap.size) (i := 1) (Box.other (g' := w.heap.size) (i := 0) y2.out (by omega) (.string kt)) (by omega) (.string ku)) (by omega) (.slice a2 l2 c2)) (by omega) (.slice a3 l3 c3)) (.bool true)
        have z10 := z1.cell 0 rfl
        have z11 := z1.cell 1 rfl
        have z12 := z1.cell 2 rfl
        have z13 := z1.cell 3 rfl
        have z20 := z2.cell 0 rfl
        refine (show Leaves Tryd.prog _ _ _ [] FrameMode.returning _ from ⟨.tuple #[.agg (List.toArray [.string kt, .string ku, .slice a2 l2 c2, .slice a3 l3 c3]), .bool true], ?_, ?_⟩)
        · simp [results, Tryd.results27, go_sem, z10, z11, z12, z13, z20]
        · refine ⟨_, _, _, _, _, _, _, _, x, fs, true, rfl, MarkOwn_stays _ _ _ _ _ _ (fun b q => ?_) hto6.out, hnd'.out, fun b q => by have := hlo'.out b q; omega, hyes.out, ((((hb6.out.setCell (p := ⟨w.heap.size, 0, none⟩) (Nat.le_refl _) _).setCell (p := ⟨w.heap.size, 1, none⟩) (Nat.le_refl _) _).setCell (p := ⟨w.heap.size, 2, none⟩) (Nat.le_refl _) _).setCell (p := ⟨w.heap.size, 3, none⟩) (Nat.le_refl _) _).setCell (p := ⟨w.heap.size + 1, 0, none⟩) (by simp) _⟩
          have := hlo'.out b q
          rw [set_other (by omega), set_other (by omega), set_other (by omega), set_other (by omega), set_other (by omega)]
end Go.Proofs.YtlcddndpfhdakaaDoor
