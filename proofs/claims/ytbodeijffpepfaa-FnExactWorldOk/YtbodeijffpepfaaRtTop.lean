/- ReadTree of the program: walked. -/
import Derived.Test.YtbodeijffpepfaaRtCatch
namespace Go.Proofs.Ytbodeijffpepfaa
open Go.RowKit Go.Deep
def zeroT : TD := mkT ⟨#[]⟩ []
theorem zeroT_own {n : Nat} (hn : 0 < n) (w : World) : TreeO n w [.string ⟨#[]⟩, .slice none 0 0] zeroT [] := by
  obtain ⟨m, rfl⟩ : ∃ m, n = m + 1 := ⟨n - 1, by omega⟩
  exact ⟨_, [], rfl, ⟨none, 0, rfl, ⟨Nat.zero_le _, Nat.zero_le _⟩, Or.inl ⟨rfl, rfl⟩⟩, Nat.zero_le _, rfl⟩
/-- what is read of a text -/
def ReadsT (s : ByteArray) (x : TD) (b : Bool) : Prop :=
  (b = true ∧ s.size ≤ 1000 ∧ ∃ c, Gd 30 x c s.data.toList [] ∧ c ≤ 30) ∨ (b = false ∧ x = zeroT ∧ (s.size ≤ 1000 → ∀ m x c, Gd m x c s.data.toList [] → ¬ c ≤ 30))
theorem ReadsT.one {s : ByteArray} {x y : TD} {a b : Bool} (h : ReadsT s x a) (k : ReadsT s y b) : x = y ∧ a = b := by
  rcases h with ⟨rfl, h1, c, h2, h3⟩ | ⟨rfl, h1, h2⟩ <;> rcases k with ⟨rfl, k1, d, k2, k3⟩ | ⟨rfl, k1, k2⟩
  · exact ⟨(Gd.one _ _ _ _ _ _ _ _ _ h2 k2).1, rfl⟩
  · exact (k2 h1 _ _ _ h2 h3).elim
  · exact (h2 k1 _ _ _ k2 k3).elim
  · exact ⟨by rw [h1, k1], rfl⟩
theorem catch_facts {w : World} {b1 b2 : Nat} {x y v : Value} (h1 : Box w b1 [x, y] 48) (h2 : Box w b2 [v] 4) (hne : b1 ≠ b2) : Box (catchW w b1 b2) b1 resT 48 ∧ Box (catchW w b1 b2) b2 [.bool false] 4 ∧ ∀ B, B ≤ b1 → B ≤ b2 → Below B w (catchW w b1 b2) := by
  have a1 : Box (w.alloc zT) b1 [x, y] 48 := h1.alloc _
  have a2 : Box (w.alloc zT) b2 [v] 4 := h2.alloc _
  refine ⟨Box.other (Box.set (i := 1) (Box.set (i := 0) a1 (.string ⟨#[]⟩)) (.slice none 0 0)) hne _, Box.set (i := 0) (Box.other (Box.other a2 (Ne.symm hne) _) (Ne.symm hne) _) _, fun B q1 q2 => ?_⟩
  exact ((((Below.refl _ _).alloc (Nat.le_of_lt (Nat.lt_of_le_of_lt q1 h1.lt)) _).setCell (p := ⟨b1, 0, none⟩) q1 _).setCell (p := ⟨b1, 1, none⟩) q1 _).setCell (p := ⟨b2, 0, none⟩) q2 _
theorem bel_grown {w w0 w1 : World} {g : Nat} (hb : Below w.heap.size w w0) (hs : w.heap.size ≤ w0.heap.size) (hg : w0.grownBy w1 (some g)) (hgl : w.heap.size ≤ g) : Below w.heap.size w w1 :=
  ⟨hg.os.trans hb.os, hg.tape.trans hb.tape, hg.output.trans hb.output, Nat.le_trans hs hg.size, fun b h => (hg.block b (Nat.lt_of_lt_of_le h hs) (fun e => by injection e; omega)).trans (hb.block b h)⟩
theorem fall_below {w w0 w1 w2 : World} {g b1 b2 : Nat} (hb : Below w.heap.size w w0) (hs : w.heap.size ≤ w0.heap.size) (hg : w0.grownBy w1 (some g)) (hgl : w.heap.size ≤ g) (zb : ∀ B, B ≤ b1 → B ≤ b2 → Below B w1 w2) (h1 : w.heap.size ≤ b1 := by omega) (h2 : w.heap.size ≤ b2 := by omega) : Below w.heap.size w w2 :=
  (bel_grown hb hs hg hgl).trans (zb _ h1 h2)
theorem fall_below2 {w w1 w2 : World} {b1 b2 : Nat} (hb : Below w.heap.size w w1) (zb : ∀ B, B ≤ b1 → B ≤ b2 → Below B w1 w2) (h1 : w.heap.size ≤ b1 := by omega) (h2 : w.heap.size ≤ b2 := by omega) : Below w.heap.size w w2 :=
  hb.trans (zb _ h1 h2)
set_option maxRecDepth 100000 in
set_option maxHeartbeats 4000000 in
theorem readWhole_any {w : World} {s : ByteArray} (hs : s.size ≤ 1048576) :
    Calls Try.prog 55 #[.string s, .int .i64 1000, .func (.func 56) #[] #[]] w fun e w' => ∃ (cs : List Value) (x : TD) (fs : List Nat) (b : Bool), e = .returned (.tuple #[.agg cs.toArray, .bool b]) ∧ TreeO 31 w' cs x fs ∧ fs.Nodup ∧ (∀ b ∈ fs, w.heap.size ≤ b) ∧ ReadsT s x b ∧ Below w.heap.size w w' := by
  have hmf : ∀ (fn : Fn) (first cap : Array Value) (w : World), (Instr.makeFunc fn first cap).run Try.prog w = .ok (.func fn first cap) w := fun _ _ _ _ => rfl
  have hss : Hid (s.size ≤ 1048576) := hs
  clear hs
  by_cases hl : (1000 : Int) < s.size
  · have hno : Hid (ReadsT s zeroT false) := Or.inr ⟨rfl, rfl, fun h => by omega⟩
    go_enter_defers Try.func55, Try.ntmps55
    go_wp2
    refine ⟨.tuple #[.agg (List.toArray [.string ⟨#[]⟩, .slice none 0 0]), .bool false], by simp [results, Try.results55, go_sem], ?_⟩
    exact ⟨_, zeroT, [], false, rfl, zeroT_own (by omega) _, List.nodup_nil, by simp, hno.out, ((Below.refl _ _).alloc (Nat.le_refl _) _).alloc (by simp) _⟩
  · have hb0 : Hid (Below w.heap.size w (((w.alloc zT).alloc (.cells #[.bool false] 4)).alloc (.cells #[.string s, .int .i64 0, .int .i64 30] 132))) := (((Below.refl _ _).alloc (Nat.le_refl _) _).alloc (by simp) _).alloc (by simp; omega) _
    have hsz0 : (((w.alloc zT).alloc (.cells #[.bool false] 4)).alloc (.cells #[.string s, .int .i64 0, .int .i64 30] 132)).heap.size = w.heap.size + 3 := by simp
    have x1 : Hid (Box (((w.alloc zT).alloc (.cells #[.bool false] 4)).alloc (.cells #[.string s, .int .i64 0, .int .i64 30] 132)) w.heap.size resT 48) := ((Box.new w _ _).alloc _).alloc _
    have x2 : Hid (Box (((w.alloc zT).alloc (.cells #[.bool false] 4)).alloc (.cells #[.string s, .int .i64 0, .int .i64 30] 132)) (w.heap.size + 1) [.bool false] 4) := by have := (Box.new (w.alloc zT) [.bool false] 4).alloc (.cells #[.string s, .int .i64 0, .int .i64 30] 132); simpa [Hid] using this
    have x3 : Hid (TrAt (((w.alloc zT).alloc (.cells #[.bool false] 4)).alloc (.cells #[.string s, .int .i64 0, .int .i64 30] 132)) (w.heap.size + 1 + 1) s 0 30) := by have := Box.new ((w.alloc zT).alloc (.cells #[.bool false] 4)) [.string s, .int .i64 0, .int .i64 30] 132; simpa [Hid, TrAt] using this
    have hrest : Hid (rest s 0 = s.data.toList) := by show _ = _; simp [rest]
    go_enter_defers Try.func55, Try.ntmps55
    go_wp2_with fail
    refine (trF_all 30 (by omega) _ _ s 0 x3.out (Nat.zero_le _) hss.out).mono ?_
    intro e w1 hor
    rcases hor with hyes | ⟨rfl, hg1, hno⟩
    rotate_left
    · have hno' : Hid (ReadsT s zeroT false) := Or.inr ⟨rfl, rfl, fun _ m x c h => hno m x c _ (by rw [hrest.out]; exact h)⟩
      have hg1' : Hid ((((w.alloc zT).alloc (.cells #[.bool false] 4)).alloc (.cells #[.string s, .int .i64 0, .int .i64 30] 132)).grownBy w1 (some (w.heap.size + 1 + 1))) := hg1
      have y1 : Hid (Box w1 w.heap.size resT 48) := box_grown x1.out (by omega) hg1
      have y2 : Hid (Box w1 (w.heap.size + 1) [.bool false] 4) := box_grown x2.out (by omega) hg1
      clear hno hg1
      go_wp2_with fail
      refine leaves_cons (f := 74) (args := #[.pointer (some ⟨w.heap.size, 0, none⟩), .pointer (some ⟨w.heap.size + 1, 0, none⟩)]) (by simp) (by simp [go_sem]) ?_
      refine (catch_thrown y1.out y2.out (by omega) _ _ _).mono ?_
      rintro e u' w'' ⟨rfl, rfl, rfl⟩
      obtain ⟨z1, z2, zb⟩ := catch_facts y1.out y2.out (by omega)
      have z10 := z1.cell 0 rfl
      have z11 := z1.cell 1 rfl
      have z20 := z2.cell 0 rfl
      refine (show Leaves Try.prog _ _ _ [] FrameMode.returning _ from ⟨.tuple #[.agg (List.toArray [.string ⟨#[]⟩, .slice none 0 0]), .bool false], ?_, ?_⟩)
      · simp [results, Try.results55, go_sem, z10, z11, z20]
      · exact ⟨_, zeroT, [], false, rfl, zeroT_own (by omega) _, List.nodup_nil, by simp, hno'.out, fall_below hb0.out (by rw [hsz0]; omega) hg1'.out (by omega) zb⟩
    · obtain ⟨cs, x, fs, c, p', rfl, hto, hnd, hlo, htr, hc, hp, hgd, hg1⟩ := hyes
      obtain ⟨kt, b3, l3, c3, rfl⟩ : ∃ (kt : ByteArray) (b3 : Option Addr) (l3 c3 : Nat), cs = [.string kt, .slice b3 l3 c3] := by obtain ⟨k, e, h3, _⟩ := hto.opened; obtain ⟨y1, y2, y3⟩ := h3.form; exact ⟨_, y1, _, y2, by rw [e, y3]⟩
      have y1 : Hid (Box w1 w.heap.size resT 48) := box_grown x1.out (by omega) hg1
      have y2 : Hid (Box w1 (w.heap.size + 1) [.bool false] 4) := box_grown x2.out (by omega) hg1
      have hto' : Hid (TreeO 31 w1 [.string kt, .slice b3 l3 c3] x fs) := TreeO_mono (by omega) hto
      have hnd' : Hid fs.Nodup := hnd
      have hlo' : Hid (∀ b ∈ fs, w.heap.size + 3 + 1 ≤ b) := by rw [hsz0] at hlo; exact hlo
      have hgd' : Hid (Gd 30 x c s.data.toList (rest s p')) := by rw [← hrest.out]; exact hgd
      have hg1' : Hid ((((w.alloc zT).alloc (.cells #[.bool false] 4)).alloc (.cells #[.string s, .int .i64 0, .int .i64 30] 132)).grownBy w1 (some (w.heap.size + 1 + 1))) := hg1
      have htr' : Hid (TrAt w1 (w.heap.size + 1 + 1) s p' (30 - c)) := htr
      have r0 := y1.out.cell 0 rfl
      have r1 := y1.out.cell 1 rfl
      have fR := y1.out.unfrozen
      clear hto hnd hlo hgd hg1 htr
      go_wp2_with fail
      have htr5 : Hid (TrAt (putCells w1 w.heap.size 0 [.string kt, .slice b3 l3 c3]) (w.heap.size + 1 + 1) s p' (30 - c)) := (putCells_other [.string kt, .slice b3 l3 c3] w1 w.heap.size 0 (w.heap.size + 1 + 1) (by omega)).trans htr'.out
      have v1 : Hid (Box (putCells w1 w.heap.size 0 [.string kt, .slice b3 l3 c3]) w.heap.size [.string kt, .slice b3 l3 c3] 48) := Box.set (i := 1) (Box.set (i := 0) y1.out (.string kt)) (.slice b3 l3 c3)
      have v2 : Hid (Box (putCells w1 w.heap.size 0 [.string kt, .slice b3 l3 c3]) (w.heap.size + 1) [.bool false] 4) := (putCells_other [.string kt, .slice b3 l3 c3] w1 w.heap.size 0 (w.heap.size + 1) (by omega)).trans y2.out
      have hb5 : Hid (Below w.heap.size w (putCells w1 w.heap.size 0 [.string kt, .slice b3 l3 c3])) := putCells_below _ _ _ _ _ _ (Nat.le_refl _) (bel_grown hb0.out (by rw [hsz0]; omega) hg1'.out (by omega))
      have hto5 : Hid (TreeO 31 (putCells w1 w.heap.size 0 [.string kt, .slice b3 l3 c3]) [.string kt, .slice b3 l3 c3] x fs) := TreeO_stays _ _ _ _ _ _ (fun b q => putCells_other _ _ _ _ _ (by have := hlo'.out b q; omega)) hto'.out
      have hu : ((w1.setCell ⟨w.heap.size, 0, none⟩ (.string kt)).setCell ⟨w.heap.size, 1, none⟩ (.slice b3 l3 c3)) = putCells w1 w.heap.size 0 [.string kt, .slice b3 l3 c3] := rfl
      rw [hu]
      generalize putCells w1 w.heap.size 0 [.string kt, .slice b3 l3 c3] = w5 at *
      clear hu r0 r1 fR y1 y2 x1 x2 x3 hto' htr' hg1' hb0
      by_cases hpe : p' < s.size
      · have hno' : Hid (ReadsT s zeroT false) := Or.inr ⟨rfl, rfl, fun _ m y d h _ => by
          have := (Gd.one _ _ _ _ _ _ _ _ _ hgd'.out h).2.2
          have := congrArg List.length this
          rw [rest, List.length_drop, bd_len, List.length_nil] at this
          omega⟩
        refine (end_no htr5.out hpe).mono ?_
        rintro e w6 ⟨rfl, n6, rfl⟩
        have y1 : Hid (Box (w5.drewN n6) w.heap.size [.string kt, .slice b3 l3 c3] 48) := v1.out
        have y2 : Hid (Box (w5.drewN n6) (w.heap.size + 1) [.bool false] 4) := v2.out
        have hb6 : Hid (Below w.heap.size w (w5.drewN n6)) := ⟨hb5.out.os, hb5.out.tape, hb5.out.output, hb5.out.size, hb5.out.block⟩
        clear v1 v2 hb5 htr5 hto5
        go_wp2_with fail
        refine leaves_cons (f := 74) (args := #[.pointer (some ⟨w.heap.size, 0, none⟩), .pointer (some ⟨w.heap.size + 1, 0, none⟩)]) (by simp) (by simp [go_sem]) ?_
        refine (catch_thrown y1.out y2.out (by omega) _ _ _).mono ?_
        rintro e u' w'' ⟨rfl, rfl, rfl⟩
        obtain ⟨z1, z2, zb⟩ := catch_facts y1.out y2.out (by omega)
        have z10 := z1.cell 0 rfl
        have z11 := z1.cell 1 rfl
        have z20 := z2.cell 0 rfl
        refine (show Leaves Try.prog _ _ _ [] FrameMode.returning _ from ⟨.tuple #[.agg (List.toArray [.string ⟨#[]⟩, .slice none 0 0]), .bool false], ?_, ?_⟩)
        · simp [results, Try.results55, go_sem, z10, z11, z20]
        · exact ⟨_, zeroT, [], false, rfl, zeroT_own (by omega) _, List.nodup_nil, by simp, hno'.out, fall_below2 hb6.out zb⟩
      · obtain rfl : p' = s.size := by omega
        have hyes : Hid (ReadsT s x true) := Or.inl ⟨rfl, by omega, c, by have := hgd'.out; rwa [show rest s s.size = [] from by unfold rest; rw [List.drop_of_length_le (by rw [bd_len]; exact Nat.le_refl _)]] at this, hc⟩
        refine (end_yes htr5.out).mono ?_
        rintro e w6 ⟨rfl, n6, rfl⟩
        have y1 : Hid (Box (w5.drewN n6) w.heap.size [.string kt, .slice b3 l3 c3] 48) := v1.out
        have y2 : Hid (Box (w5.drewN n6) (w.heap.size + 1) [.bool false] 4) := v2.out
        have hb6 : Hid (Below w.heap.size w (w5.drewN n6)) := ⟨hb5.out.os, hb5.out.tape, hb5.out.output, hb5.out.size, hb5.out.block⟩
        have hto6 : Hid (TreeO 31 (w5.drewN n6) [.string kt, .slice b3 l3 c3] x fs) := TreeO_stays _ _ _ _ _ _ (fun b q => rfl) hto5.out
        clear v1 v2 hb5 htr5 hto5
        have r0 := y1.out.cell 0 rfl
        have r1 := y1.out.cell 1 rfl
        have fR := y1.out.unfrozen
        have r2 := y2.out.cell 0 rfl
        have fB := y2.out.unfrozen
        have hne1 : ¬ w.heap.size = w.heap.size + 1 := by omega
        go_wp2_with fail
        refine leaves_cons (f := 74) (args := #[.pointer (some ⟨w.heap.size, 0, none⟩), .pointer (some ⟨w.heap.size + 1, 0, none⟩)]) (by simp) (by simp [go_sem]) ?_
        refine (catch_idle ⟨w.heap.size, 0, none⟩ ⟨w.heap.size + 1, 0, none⟩ _).mono ?_
        rintro e u' w'' ⟨rfl, rfl, rfl⟩
        have z1 := Box.other (g' := w.heap.size + 1) (i := 0) (Box.set (i := 1) (Box.set (i := 0) y1.out (.string kt)) (.slice b3 l3 c3)) (by omega) (.bool true)
        have z2 := Box.set (i := 0) (Box.other (g' := w.heap.size) (i := 1) (Box.other (g' := w.heap.size) (i := 0) y2.out (by omega) (.string kt)) (by omega) (.slice b3 l3 c3)) (.bool true)
        have z10 := z1.cell 0 rfl
        have z11 := z1.cell 1 rfl
        have z20 := z2.cell 0 rfl
        refine (show Leaves Try.prog _ _ _ [] FrameMode.returning _ from ⟨.tuple #[.agg (List.toArray [.string kt, .slice b3 l3 c3]), .bool true], ?_, ?_⟩)
        · simp [results, Try.results55, go_sem, z10, z11, z20]
        · refine ⟨_, x, fs, true, rfl, TreeO_stays _ _ _ _ _ _ (fun b q => ?_) hto6.out, hnd'.out, fun b q => by have := hlo'.out b q; omega, hyes.out, ((hb6.out.setCell (p := ⟨w.heap.size, 0, none⟩) (Nat.le_refl _) _).setCell (p := ⟨w.heap.size, 1, none⟩) (Nat.le_refl _) _).setCell (p := ⟨w.heap.size + 1, 0, none⟩) (by simp) _⟩
          have := hlo'.out b q
          rw [set_other (by omega), set_other (by omega), set_other (by omega)]
set_option maxRecDepth 100000 in
set_option maxHeartbeats 2000000 in
theorem implReadTree_any {w : World} {s : ByteArray} (hs : s.size ≤ 1048576) :
    Calls Try.prog 33 #[.string s] w fun e w' => ∃ (cs : List Value) (x : TD) (fs : List Nat) (b : Bool), e = .returned (.tuple #[.agg cs.toArray, .bool b]) ∧ TreeO 31 w' cs x fs ∧ fs.Nodup ∧ (∀ b ∈ fs, w.heap.size ≤ b) ∧ ReadsT s x b ∧ Below w.heap.size w w' := by
  have hb0 : Hid (Below w.heap.size w (w.alloc zT)) := (Below.refl _ _).alloc (Nat.le_refl _) _
  have x1 : Hid (Box (w.alloc zT) w.heap.size resT 48) := Box.new w _ _
  go_enter Try.func33, Try.ntmps33
  go_wp2_with fail
  refine (readWhole_any hs).mono ?_
  rintro e w1 ⟨cs, x, fs, b, rfl, hto, hnd, hlo, hr, hb1⟩
  obtain ⟨kt, b3, l3, c3, rfl⟩ : ∃ (kt : ByteArray) (b3 : Option Addr) (l3 c3 : Nat), cs = [.string kt, .slice b3 l3 c3] := by obtain ⟨k, e, h3, _⟩ := hto.opened; obtain ⟨y1, y2, y3⟩ := h3.form; exact ⟨_, y1, _, y2, by rw [e, y3]⟩
  have y1 : Hid (Box w1 w.heap.size resT 48) := x1.out.below hb1 x1.out.lt
  have hto' : Hid (TreeO 31 w1 [.string kt, .slice b3 l3 c3] x fs) := hto
  have hnd' : Hid fs.Nodup := hnd
  have hlo' : Hid (∀ b ∈ fs, w.heap.size + 1 ≤ b) := by simpa [Hid] using hlo
  have hr' : Hid (ReadsT s x b) := hr
  have hb1' : Hid (Below w.heap.size w w1) := hb0.out.trans (hb1.mono (by simp))
  have r0 := y1.out.cell 0 rfl
  have r1 := y1.out.cell 1 rfl
  have fR := y1.out.unfrozen
  clear hto hnd hlo hr hb1
  go_wp2_with fail
  have z1 := Box.set (i := 1) (Box.set (i := 0) y1.out (.string kt)) (.slice b3 l3 c3)
  have z10 := z1.cell 0 rfl
  have z11 := z1.cell 1 rfl
  refine bodyPost_ret (v := .tuple #[.agg (List.toArray [.string kt, .slice b3 l3 c3]), .bool b]) (by simp [results, Try.results33, go_sem, z10, z11]) rfl ?_
  refine ⟨_, x, fs, b, rfl, TreeO_stays _ _ _ _ _ _ (fun b q => ?_) hto'.out, hnd'.out, fun b q => by have := hlo'.out b q; omega, hr'.out, (hb1'.out.setCell (p := ⟨w.heap.size, 0, none⟩) (Nat.le_refl _) _).setCell (p := ⟨w.heap.size, 1, none⟩) (Nat.le_refl _) _⟩
  have := hlo'.out b q
  rw [set_other (by omega), set_other (by omega)]
end Go.Proofs.Ytbodeijffpepfaa
