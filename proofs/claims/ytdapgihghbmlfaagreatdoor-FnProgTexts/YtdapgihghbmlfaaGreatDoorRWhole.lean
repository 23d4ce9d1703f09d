/- The deferred function that turns what was thrown into false. -/
import Derived.Test.YtdapgihghbmlfaaGreatDoorRpImpl
import Derived.Defers
import Derived.Recover
namespace Go.Proofs.YtdapgihghbmlfaaGreatDoor
open Go.RowKit Go.Deep
abbrev zT : Obj := .cells #[.slice none 0 0] 24
abbrev catchW (w : World) (b1 b2 : Nat) : World := (w.setCell ⟨b1, 0, none⟩ (.slice none 0 0)).setCell ⟨b2, 0, none⟩ (.bool false)
set_option maxHeartbeats 2000000 in
theorem catch_thrown {w : World} {b1 b2 : Nat} {x0 v : Value} (h1 : Box w b1 [x0] 24) (h2 : Box w b2 [v] 4) (hne : b1 ≠ b2) (u : TypeId) (pv : Value) (older : List PanicEntry) :
    CallsD Tryz.prog 34 #[.pointer (some ⟨b1, 0, none⟩), .pointer (some ⟨b2, 0, none⟩)] (.panicking ({ v := .iface u pv, recovered := false } :: older)) w fun e u' w' =>
      e = .returned (.tuple #[]) ∧ u' = .panicking ({ v := .iface u pv, recovered := true } :: older) ∧ w' = catchW w b1 b2 := by
  refine callsD_of_wpS Tryz.func34 rfl fun c₀ cs hu => ?_
  apply wpS_seq
  apply wpS_region
  simp [wpOpsS, go_sem, recoverD, hu, Tryz.ntmps34, Exit.thenS]
  refine wpS_cond (t := true) (by simp [Act.eval, Array.replicate]) ?_
  simp only [if_true]
  apply wpS_seq
  apply wpS_region
  simp [wpOpsS, go_sem, Exit.thenS]
  apply wpS_region
  have a1 : Box w b1 [x0] 24 := h1
  have a2 : Box w b2 [v] 4 := h2
  have e0 := a1.cell 0 rfl
  have f0 := a1.unfrozen 0
  have s0 := Box.set (i := 0) a1 (.slice none 0 0)
  have t0 := Box.other (i := 0) a2 (Ne.symm hne) (.slice none 0 0)
  have eb := t0.cell 0 rfl
  have fb := t0.unfrozen 0
  simp [wpOpsS, go_sem, e0, f0, eb, fb, bodyPostS, results, Tryz.results34]
set_option maxHeartbeats 1000000 in
theorem catch_idle (p q : Addr) (w : World) :
    CallsD Tryz.prog 34 #[.pointer (some p), .pointer (some q)] .returning w fun e u' w' => e = .returned (.tuple #[]) ∧ u' = .returning ∧ w' = w := by
  refine callsD_of_wpS Tryz.func34 rfl fun c₀ cs hu => ?_
  apply wpS_seq
  apply wpS_region
  simp [wpOpsS, go_sem, recoverD, hu, Tryz.ntmps34, Exit.thenS]
  refine wpS_cond (t := false) (by simp [Act.eval, Array.replicate]) ?_
  simp only [Bool.false_eq_true, if_false]
  refine wpS_of_wp (wp_skip ?_)
  cases c₀
  simp_all [bodyPostS, results, Tryz.results34]
theorem catch_facts {w : World} {b1 b2 : Nat} {x0 v : Value} (h1 : Box w b1 [x0] 24) (h2 : Box w b2 [v] 4) (hne : b1 ≠ b2) : Box (catchW w b1 b2) b1 [.slice none 0 0] 24 ∧ Box (catchW w b1 b2) b2 [.bool false] 4 ∧ ∀ B, B ≤ b1 → B ≤ b2 → Below B w (catchW w b1 b2) := by
  have a1 : Box w b1 [x0] 24 := h1
  have a2 : Box w b2 [v] 4 := h2
  have s0 := Box.set (i := 0) a1 (.slice none 0 0)
  have t0 := Box.other (i := 0) a2 (Ne.symm hne) (.slice none 0 0)
  refine ⟨Box.other s0 hne _, Box.set (i := 0) t0 _, fun B q1 q2 => ?_⟩
  have hb0 : Below B w w := Below.refl _ _
  exact (hb0.setCell (p := ⟨b1, 0, none⟩) q1 _).setCell (p := ⟨b2, 0, none⟩) q2 _
theorem bel_grown {w w0 w1 : World} {g : Nat} (hb : Below w.heap.size w w0) (hs : w.heap.size ≤ w0.heap.size) (hg : w0.grownBy w1 (some g)) (hgl : w.heap.size ≤ g) : Below w.heap.size w w1 :=
  ⟨hg.os.trans hb.os, hg.tape.trans hb.tape, hg.output.trans hb.output, Nat.le_trans hs hg.size, fun b h => (hg.block b (Nat.lt_of_lt_of_le h hs) (fun e => by injection e; omega)).trans (hb.block b h)⟩
theorem fall_below {w w0 w1 w2 : World} {g b1 b2 : Nat} (hb : Below w.heap.size w w0) (hs : w.heap.size ≤ w0.heap.size) (hg : w0.grownBy w1 (some g)) (hgl : w.heap.size ≤ g) (zb : ∀ B, B ≤ b1 → B ≤ b2 → Below B w1 w2) (h1 : w.heap.size ≤ b1 := by omega) (h2 : w.heap.size ≤ b2 := by omega) : Below w.heap.size w w2 :=
  (bel_grown hb hs hg hgl).trans (zb _ h1 h2)
theorem fall_below2 {w w1 w2 : World} {b1 b2 : Nat} (hb : Below w.heap.size w w1) (zb : ∀ B, B ≤ b1 → B ≤ b2 → Below B w1 w2) (h1 : w.heap.size ≤ b1 := by omega) (h2 : w.heap.size ≤ b2 := by omega) : Below w.heap.size w w2 :=
  hb.trans (zb _ h1 h2)
end Go.Proofs.YtdapgihghbmlfaaGreatDoor
namespace Go.Proofs.YtdapgihghbmlfaaGreatDoor
open Go.RowKit Go.Deep
/-- what is read of a whole text -/
def RdW (s : ByteArray) (x : List InstrD) (b : Bool) : Prop := (b = true ∧ s.size ≤ 278 ∧ rdProg s.data.toList = some (x, [])) ∨ (b = false ∧ x = [] ∧ (s.size ≤ 278 → ∀ y, rdProg s.data.toList ≠ some (y, [])))
theorem seqOwn_nil {α : Type} {c : Nat} {R : World → List Value → α → List Nat → Prop} (w : World) : SeqOwn c R w (.slice none 0 0) ([] : List α) [] := ⟨none, 0, rfl, ⟨Nat.zero_le _, Nat.zero_le _⟩, Or.inl ⟨rfl, rfl⟩⟩
set_option maxRecDepth 100000 in
set_option maxHeartbeats 4000000 in
theorem readWhole_any {w : World} {s : ByteArray} (hs : s.size ≤ 1048576) (hT : Tb w) :
    Calls Tryz.prog 16 #[.string s, .int .i64 278, .func (.func 17) #[] #[]] w fun e w' => ∃ (b3 : Option Addr) (l3 c3 : Nat) (x : List InstrD) (fs : List Nat) (b : Bool), e = .returned (.tuple #[.slice b3 l3 c3, .bool b]) ∧ SeqOwn 3 InstrOwn w' (.slice b3 l3 c3) x fs ∧ fs.Nodup ∧ (∀ b ∈ fs, w.heap.size ≤ b) ∧ RdW s x b ∧ Below w.heap.size w w' := by
  have hmf : ∀ (fn : Fn) (first cap : Array Value) (w : World), (Instr.makeFunc fn first cap).run Tryz.prog w = .ok (.func fn first cap) w := fun _ _ _ _ => rfl
  have hss : Hid (s.size ≤ 1048576) := hs
  clear hs
  by_cases hl : (278 : Int) < s.size
  · have hno : Hid (RdW s [] false) := Or.inr ⟨rfl, rfl, fun h => by omega⟩
    go_enter_defers Tryz.func16, Tryz.ntmps16
    go_wp2
    refine ⟨.tuple #[.slice none 0 0, .bool false], by simp [results, Tryz.results16, go_sem], ?_⟩
    exact ⟨_, _, _, [], [], false, rfl, seqOwn_nil _, List.nodup_nil, by simp, hno.out, ((Below.refl _ _).alloc (Nat.le_refl _) _).alloc (by simp) _⟩
  · have hb0 : Hid (Below w.heap.size w (((w.alloc zT).alloc (.cells #[.bool false] 4)).alloc (.cells #[.string s, .int .i64 0, .int .i64 30] 70))) := (((Below.refl _ _).alloc (Nat.le_refl _) _).alloc (by simp) _).alloc (by simp; omega) _
    have hsz0 : (((w.alloc zT).alloc (.cells #[.bool false] 4)).alloc (.cells #[.string s, .int .i64 0, .int .i64 30] 70)).heap.size = w.heap.size + 3 := by simp
    have x1 : Hid (Box (((w.alloc zT).alloc (.cells #[.bool false] 4)).alloc (.cells #[.string s, .int .i64 0, .int .i64 30] 70)) w.heap.size [.slice none 0 0] 24) := ((Box.new w _ _).alloc _).alloc _
    have x2 : Hid (Box (((w.alloc zT).alloc (.cells #[.bool false] 4)).alloc (.cells #[.string s, .int .i64 0, .int .i64 30] 70)) (w.heap.size + 1) [.bool false] 4) := by have := (Box.new (w.alloc zT) [.bool false] 4).alloc (.cells #[.string s, .int .i64 0, .int .i64 30] 70); simpa [Hid] using this
    have x3 : Hid (TrAt (((w.alloc zT).alloc (.cells #[.bool false] 4)).alloc (.cells #[.string s, .int .i64 0, .int .i64 30] 70)) (w.heap.size + 1 + 1) s 0 30) := by have := Box.new ((w.alloc zT).alloc (.cells #[.bool false] 4)) [.string s, .int .i64 0, .int .i64 30] 70; simpa [Hid, TrAt] using this
    have hrest : Hid (rest s 0 = s.data.toList) := by show _ = _; simp [rest]
    have hTW : Hid (Tb (((w.alloc zT).alloc (.cells #[.bool false] 4)).alloc (.cells #[.string s, .int .i64 0, .int .i64 30] 70))) := hT.below hb0.out hT.lt
    have hT7 : Hid (7 ≤ w.heap.size) := hT.lt
    clear hT
    go_enter_defers Tryz.func16, Tryz.ntmps16
    go_wp2_with fail
    refine (progFrom_any x3.out (Nat.zero_le _) hss.out hTW.out (by have := hT7.out; omega)).mono ?_
    intro e w1 hor
    rcases hor with hyes | ⟨rfl, hg1, hno⟩
    rotate_left
    · have hno' : Hid (RdW s [] false) := Or.inr ⟨rfl, rfl, fun _ y e => by rw [← hrest.out, hno] at e; cases e⟩
      have hg1' : Hid ((((w.alloc zT).alloc (.cells #[.bool false] 4)).alloc (.cells #[.string s, .int .i64 0, .int .i64 30] 70)).grownBy w1 (some (w.heap.size + 1 + 1))) := hg1
      have y1 : Hid (Box w1 w.heap.size [.slice none 0 0] 24) := box_grown x1.out (by omega) hg1
      have y2 : Hid (Box w1 (w.heap.size + 1) [.bool false] 4) := box_grown x2.out (by omega) hg1
      clear hno hg1
      go_wp2_with fail
      refine leaves_cons (f := 34) (args := #[.pointer (some ⟨w.heap.size, 0, none⟩), .pointer (some ⟨w.heap.size + 1, 0, none⟩)]) (by simp) (by simp [go_sem]) ?_
      refine (catch_thrown y1.out y2.out (by omega) _ _ _).mono ?_
      rintro e u' w'' ⟨rfl, rfl, rfl⟩
      obtain ⟨z1, z2, zb⟩ := catch_facts y1.out y2.out (by omega)
      have z10 := z1.cell 0 rfl
      have z20 := z2.cell 0 rfl
      refine (show Leaves Tryz.prog _ _ _ [] FrameMode.returning _ from ⟨.tuple #[.slice none 0 0, .bool false], ?_, ?_⟩)
      · simp [results, Tryz.results16, go_sem, z10, z20]
      · exact ⟨_, _, _, [], [], false, rfl, seqOwn_nil _, List.nodup_nil, by simp, hno'.out, fall_below hb0.out (by rw [hsz0]; omega) hg1'.out (by omega) zb⟩
    · obtain ⟨v, x, fs, p', rfl, hto, hnd, hlo, htr, hp, hgd, hg1⟩ := hyes
      obtain ⟨b3, c3, hv⟩ := hto.form
      generalize x.length = l3 at hv
      subst hv
      have y1 : Hid (Box w1 w.heap.size [.slice none 0 0] 24) := box_grown x1.out (by omega) hg1
      have y2 : Hid (Box w1 (w.heap.size + 1) [.bool false] 4) := box_grown x2.out (by omega) hg1
      have hto' : Hid (SeqOwn 3 InstrOwn w1 (.slice b3 l3 c3) x fs) := hto
      have hnd' : Hid fs.Nodup := hnd
      have hlo' : Hid (∀ b ∈ fs, w.heap.size + 3 ≤ b) := by rw [hsz0] at hlo; exact hlo
      have hgd' : Hid (rdProg s.data.toList = some (x, rest s p')) := by rw [← hrest.out]; exact hgd
      have hg1' : Hid ((((w.alloc zT).alloc (.cells #[.bool false] 4)).alloc (.cells #[.string s, .int .i64 0, .int .i64 30] 70)).grownBy w1 (some (w.heap.size + 1 + 1))) := hg1
      have htr0 := htr
      have htr' : Hid (TrAt w1 (w.heap.size + 1 + 1) s p' 30) := htr0
      have r0 := y1.out.cell 0 rfl
      have fR := y1.out.unfrozen
      clear hto hnd hlo hgd hg1 htr htr0
      go_wp2_with fail
      have htr5 : Hid (TrAt (putCells w1 w.heap.size 0 [.slice b3 l3 c3]) (w.heap.size + 1 + 1) s p' 30) := (putCells_other [.slice b3 l3 c3] w1 w.heap.size 0 (w.heap.size + 1 + 1) (by omega)).trans htr'.out
      have v1 : Hid (Box (putCells w1 w.heap.size 0 [.slice b3 l3 c3]) w.heap.size [.slice b3 l3 c3] 24) := (Box.set (i := 0) y1.out (.slice b3 l3 c3))
      have v2 : Hid (Box (putCells w1 w.heap.size 0 [.slice b3 l3 c3]) (w.heap.size + 1) [.bool false] 4) := (putCells_other [.slice b3 l3 c3] w1 w.heap.size 0 (w.heap.size + 1) (by omega)).trans y2.out
      have hb5 : Hid (Below w.heap.size w (putCells w1 w.heap.size 0 [.slice b3 l3 c3])) := putCells_below _ _ _ _ _ _ (Nat.le_refl _) (bel_grown hb0.out (by rw [hsz0]; omega) hg1'.out (by omega))
      have hto5 : Hid (SeqOwn 3 InstrOwn (putCells w1 w.heap.size 0 [.slice b3 l3 c3]) (.slice b3 l3 c3) x fs) := SeqOwn.stays InstrOwn_stays hto'.out (fun b q => putCells_other _ _ _ _ _ (by have := hlo'.out b q; omega))
      have hu : (w1.setCell ⟨w.heap.size, 0, none⟩ (.slice b3 l3 c3)) = putCells w1 w.heap.size 0 [.slice b3 l3 c3] := rfl
      rw [hu]
      generalize putCells w1 w.heap.size 0 [.slice b3 l3 c3] = w5 at *
      clear hu r0 fR y1 y2 x1 x2 x3 hto' htr' hg1' hb0
      by_cases hpe : p' < s.size
      · have hno' : Hid (RdW s [] false) := Or.inr ⟨rfl, rfl, fun _ y e => by
          have h0 := hgd'.out
          rw [h0] at e
          simp only [Option.some.injEq, Prod.mk.injEq] at e
          have h1 := congrArg List.length e.2
          rw [rest, List.length_drop, bd_len, List.length_nil] at h1
          omega⟩
        refine (end_no htr5.out hpe).mono ?_
        rintro e w6 ⟨rfl, n6, rfl⟩
        have y1 : Hid (Box (w5.drewN n6) w.heap.size [.slice b3 l3 c3] 24) := v1.out
        have y2 : Hid (Box (w5.drewN n6) (w.heap.size + 1) [.bool false] 4) := v2.out
        have hb6 : Hid (Below w.heap.size w (w5.drewN n6)) := ⟨hb5.out.os, hb5.out.tape, hb5.out.output, hb5.out.size, hb5.out.block⟩
        clear v1 v2 hb5 htr5 hto5
        go_wp2_with fail
        refine leaves_cons (f := 34) (args := #[.pointer (some ⟨w.heap.size, 0, none⟩), .pointer (some ⟨w.heap.size + 1, 0, none⟩)]) (by simp) (by simp [go_sem]) ?_
        refine (catch_thrown y1.out y2.out (by omega) _ _ _).mono ?_
        rintro e u' w'' ⟨rfl, rfl, rfl⟩
        obtain ⟨z1, z2, zb⟩ := catch_facts y1.out y2.out (by omega)
        have z10 := z1.cell 0 rfl
        have z20 := z2.cell 0 rfl
        refine (show Leaves Tryz.prog _ _ _ [] FrameMode.returning _ from ⟨.tuple #[.slice none 0 0, .bool false], ?_, ?_⟩)
        · simp [results, Tryz.results16, go_sem, z10, z20]
        · exact ⟨_, _, _, [], [], false, rfl, seqOwn_nil _, List.nodup_nil, by simp, hno'.out, fall_below2 hb6.out zb⟩
      · obtain rfl : p' = s.size := by omega
        have hyes : Hid (RdW s x true) := Or.inl ⟨rfl, by omega, by have h0 := hgd'.out; rwa [show rest s s.size = [] from by unfold rest; rw [List.drop_of_length_le (by rw [bd_len]; exact Nat.le_refl _)]] at h0⟩
        refine (end_yes htr5.out).mono ?_
        rintro e w6 ⟨rfl, n6, rfl⟩
        have y1 : Hid (Box (w5.drewN n6) w.heap.size [.slice b3 l3 c3] 24) := v1.out
        have y2 : Hid (Box (w5.drewN n6) (w.heap.size + 1) [.bool false] 4) := v2.out
        have hb6 : Hid (Below w.heap.size w (w5.drewN n6)) := ⟨hb5.out.os, hb5.out.tape, hb5.out.output, hb5.out.size, hb5.out.block⟩
        have hto6 : Hid (SeqOwn 3 InstrOwn (w5.drewN n6) (.slice b3 l3 c3) x fs) := SeqOwn.stays InstrOwn_stays hto5.out (fun b q => rfl)
        clear v1 v2 hb5 htr5 hto5
        have r0 := y1.out.cell 0 rfl
        have fR := y1.out.unfrozen
        have rb := y2.out.cell 0 rfl
        have fB := y2.out.unfrozen
        have hne1 : ¬ w.heap.size = w.heap.size + 1 := by omega
        go_wp2_with fail
        refine leaves_cons (f := 34) (args := #[.pointer (some ⟨w.heap.size, 0, none⟩), .pointer (some ⟨w.heap.size + 1, 0, none⟩)]) (by simp) (by simp [go_sem]) ?_
        refine (catch_idle ⟨w.heap.size, 0, none⟩ ⟨w.heap.size + 1, 0, none⟩ _).mono ?_
        rintro e u' w'' ⟨rfl, rfl, rfl⟩
        have z1 := Box.other (g' := w.heap.size + 1) (i := 0) (Box.set (i := 0) y1.out (.slice b3 l3 c3)) (by omega) (.bool true)
        have z2 := Box.set (i := 0) (Box.other (g' := w.heap.size) (i := 0) y2.out (by omega) (.slice b3 l3 c3)) (.bool true)
        have z10 := z1.cell 0 rfl
        have z20 := z2.cell 0 rfl
        refine (show Leaves Tryz.prog _ _ _ [] FrameMode.returning _ from ⟨.tuple #[.slice b3 l3 c3, .bool true], ?_, ?_⟩)
        · simp [results, Tryz.results16, go_sem, z10, z20]
        · refine ⟨_, _, _, x, fs, true, rfl, SeqOwn.stays InstrOwn_stays hto6.out (fun b q => ?_), hnd'.out, fun b q => by have := hlo'.out b q; omega, hyes.out, (hb6.out.setCell (p := ⟨w.heap.size, 0, none⟩) (Nat.le_refl _) _).setCell (p := ⟨w.heap.size + 1, 0, none⟩) (by simp) _⟩
          have := hlo'.out b q
          rw [set_other (by omega), set_other (by omega)]
end Go.Proofs.YtdapgihghbmlfaaGreatDoor
