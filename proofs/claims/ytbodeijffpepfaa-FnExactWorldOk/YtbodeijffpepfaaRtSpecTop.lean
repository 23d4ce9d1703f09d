/- ReadTree of the specification: walked. -/
import Derived.Test.YtbodeijffpepfaaRtSpec
import Derived.Test.YtbodeijffpepfaaRtTop
import Derived.Test.YtbodeijffpepfaaTextWalks
namespace Go.Proofs.Ytbodeijffpepfaa
open Go.RowKit Go.Deep
theorem ok_some {o : Option Int} (h : okB o = true) : ∃ m, o = some m := by
  cases o with
  | none => simp [okB] at h
  | some m => exact ⟨m, rfl⟩
theorem reads_no {s : ByteArray} {p' : Nat} {x : TD} {b : Bool} (h : SrRes 30 s 0 p' x b) (hb : b = false) : ReadsT s zeroT false :=
  Or.inr ⟨rfl, rfl, fun _ m y c g hc => by
    have := (h.2.2.2.2 y c [] (by rw [show rest s 0 = s.data.toList from by simp [rest]]; exact Gd.deep _ _ _ _ _ _ g hc)).1
    rw [hb] at this; cases this⟩
theorem text_of {s : ByteArray} {n : Nat} {x : TD} (h : okB (szD n x 30) = true) (e : textR n x = s) : s.data.toList = textD n x := by
  rw [textR_yes h] at e; rw [← e]
theorem reads_yes {s : ByteArray} {p' : Nat} {x : TD} {b : Bool} (h : SrRes 30 s 0 p' x b) (hb : b = true) (hs : s.size ≤ 1000) (ht : textR 31 x = s) : ReadsT s x true := by
  have hpos : 0 < s.size := by have := h.2.2.2.1 hb; have := h.2.2.1; omega
  have hok : okB (szD 31 x 30) = true := by
    cases hq : okB (szD 31 x 30) with
    | true => rfl
    | false => rw [textR_no hq] at ht; rw [← ht] at hpos; exact absurd hpos (by decide)
  obtain ⟨m, hm⟩ := ok_some hok
  have hr := szD_range _ _ _ _ hm
  obtain ⟨c, e1, e2⟩ := gd_of 31 x 30 m h.1 hm []
  rw [List.append_nil, ← text_of hok ht] at e2
  exact Or.inl ⟨rfl, hs, c, Gd.deep _ _ _ _ _ _ e2 (by omega), by omega⟩
theorem reads_not {s : ByteArray} {p' : Nat} {x : TD} {b : Bool} (h : SrRes 30 s 0 p' x b) (ht : ¬ textR 31 x = s) : ReadsT s zeroT false :=
  Or.inr ⟨rfl, rfl, fun _ m y c g hc => by
    have g1 : Gd 30 y c s.data.toList [] := Gd.deep _ _ _ _ _ _ g hc
    obtain ⟨_, rfl, _⟩ := h.2.2.2.2 y c [] (by rw [show rest s 0 = s.data.toList from by simp [rest]]; exact g1)
    have g2 : Gd 31 x c s.data.toList [] := Gd.deep _ _ _ _ _ _ g (by omega)
    have hsz := Gd.size 31 x c _ _ 30 g2
    rw [if_pos (by omega)] at hsz
    have hok : okB (szD 31 x 30) = true := by rw [hsz]; rfl
    have htx := Gd.text 31 x c _ _ g2
    rw [List.append_nil] at htx
    apply ht
    rw [textR_yes hok]
    exact ba_of (by rw [htx])⟩
set_option maxRecDepth 100000 in
set_option maxHeartbeats 4000000 in
theorem specReadTree_any {w : World} {s : ByteArray} (hs : s.size ≤ 1048576) :
    Calls Try.prog 13 #[.string s] w fun e w' => ∃ (cs : List Value) (x : TD) (fs : List Nat) (b : Bool), e = .returned (.tuple #[.agg cs.toArray, .bool b]) ∧ TreeO 31 w' cs x fs ∧ fs.Nodup ∧ (∀ b ∈ fs, w.heap.size ≤ b) ∧ ReadsT s x b ∧ Below w.heap.size w w' := by
  have hss : Hid (s.size ≤ 1048576) := hs
  clear hs
  have hb0 : Hid (Below w.heap.size w (w.alloc zT)) := (Below.refl _ _).alloc (Nat.le_refl _) _
  by_cases hl : (1000 : Int) < s.size
  · have hno : Hid (ReadsT s zeroT false) := Or.inr ⟨rfl, rfl, fun h => by omega⟩
    go_enter Try.func13, Try.ntmps13
    go_wp2_with fail
    refine bodyPost_ret (v := .tuple #[.agg (List.toArray [.string ⟨#[]⟩, .slice none 0 0]), .bool false]) (by simp [results, Try.results13, go_sem]) rfl ?_
    exact ⟨_, zeroT, [], false, rfl, zeroT_own (by omega) _, List.nodup_nil, by simp, hno.out, hb0.out⟩
  · have hs1 : Hid (s.size ≤ 1000) := by show _ ≤ _; omega
    have x3 : Hid (SrAt ((w.alloc zT).alloc (.cells #[.string s, .int .i64 0] 78)) (w.heap.size + 1) s 0) := by have := Box.new (w.alloc zT) [.string s, .int .i64 0] 78; simpa [Hid, SrAt] using this
    have x1 : Hid (Box ((w.alloc zT).alloc (.cells #[.string s, .int .i64 0] 78)) w.heap.size resT 48) := (Box.new w _ _).alloc _
    have hb1 : Hid (Below w.heap.size w ((w.alloc zT).alloc (.cells #[.string s, .int .i64 0] 78))) := hb0.out.alloc (by simp) _
    have hsz0 : ((w.alloc zT).alloc (.cells #[.string s, .int .i64 0] 78)).heap.size = w.heap.size + 2 := by simp
    go_enter Try.func13, Try.ntmps13
    go_wp2_with fail
    refine (srF_all 30 _ _ s 0 1 x3.out (Nat.zero_le _) hss.out (by omega) (by omega)).mono ?_
    rintro e w1 ⟨cs, x, fs, b, rfl, hto, hnd, hlo, ⟨p', _, hres⟩, hg1⟩
    obtain ⟨kt, b3, l3, c3, rfl⟩ : ∃ (kt : ByteArray) (b3 : Option Addr) (l3 c3 : Nat), cs = [.string kt, .slice b3 l3 c3] := by obtain ⟨k, e, h3, _⟩ := hto.opened; obtain ⟨y1, y2, y3⟩ := h3.form; exact ⟨_, y1, _, y2, by rw [e, y3]⟩
    have hres' : Hid (SrRes 30 s 0 p' x b) := hres
    have hto' : Hid (TreeO 31 (w1.alloc (.cells #[.string kt, .slice b3 l3 c3] 48)) [.string kt, .slice b3 l3 c3] x fs) := TreeO_stays _ _ _ _ _ _ (fun c hc => Below.heap_alloc _ _ _ (TreeO_lt _ _ _ _ _ hto c hc)) hto
    have hnd' : Hid fs.Nodup := hnd
    have hlo' : Hid (∀ b ∈ fs, w.heap.size + 2 + 1 ≤ b) := by rw [hsz0] at hlo; exact hlo
    have hb2 : Hid (Below w.heap.size w (w1.alloc (.cells #[.string kt, .slice b3 l3 c3] 48))) := (bel_grown hb1.out (by rw [hsz0]; omega) hg1 (by omega)).alloc (by have := hg1.size; rw [hsz0] at this; omega) _
    have y1 : Hid (Box (w1.alloc (.cells #[.string kt, .slice b3 l3 c3] 48)) w.heap.size resT 48) := (box_grown x1.out (by omega) hg1).alloc _
    have htl : Hid (TreeAt (w1.alloc (.cells #[.string kt, .slice b3 l3 c3] 48)) 0 31 (.string kt) (.slice b3 l3 c3) x) := TreeL.at _ _ _ _ (TreeO_at _ _ _ _ _ hto'.out (fun _ _ => Nat.zero_le _))
    have z1s : w.heap.size + 2 ≤ w1.heap.size := by have := hg1.size; rw [hsz0] at this; exact this
    clear hto hnd hlo hres hg1 x1 x3 hb1 hb0 hsz0
    cases b
    · have hno : Hid (ReadsT s zeroT false) := reads_no hres'.out rfl
      have r0 := y1.out.cell 0 rfl
      have r1 := y1.out.cell 1 rfl
      have fR := y1.out.unfrozen
      have hne : ¬ w.heap.size = w1.heap.size := by omega
      go_wp2_with fail
      have z1 := Box.set (i := 1) (Box.set (i := 0) y1.out (.string ⟨#[]⟩)) (.slice none 0 0)
      have z10 := z1.cell 0 rfl
      have z11 := z1.cell 1 rfl
      refine bodyPost_ret (v := .tuple #[.agg (List.toArray [.string ⟨#[]⟩, .slice none 0 0]), .bool false]) (by simp [results, Try.results13, go_sem, z10, z11]) rfl ?_
      exact ⟨_, zeroT, [], false, rfl, zeroT_own (by omega) _, List.nodup_nil, by simp, hno.out, (hb2.out.setCell (p := ⟨w.heap.size, 0, none⟩) (Nat.le_refl _) _).setCell (p := ⟨w.heap.size, 1, none⟩) (Nat.le_refl _) _⟩
    · have d0 : (w1.alloc (.cells #[.string kt, .slice b3 l3 c3] 48)).heap.size = w1.heap.size + 1 := by simp
      go_wp2_with fail
      refine (specTreeText_any htl.out).mono ?_
      rintro e w2 ⟨rfl, hb3⟩
      have hb4 : Hid (Below w.heap.size w w2) := hb2.out.trans (hb3.mono (by rw [d0]; omega))
      have y2 : Hid (Box w2 w.heap.size resT 48) := y1.out.below hb3 y1.out.lt
      have y3 : Hid (Box w2 w1.heap.size [.string kt, .slice b3 l3 c3] 48) := (Box.new w1 _ _).below hb3 (by rw [d0]; omega)
      have hto2 : Hid (TreeO 31 w2 [.string kt, .slice b3 l3 c3] x fs) := TreeO_stays _ _ _ _ _ _ (fun c hc => hb3.block c (TreeO_lt _ _ _ _ _ hto'.out c hc)) hto'.out
      have r0 := y2.out.cell 0 rfl
      have r1 := y2.out.cell 1 rfl
      have fR := y2.out.unfrozen
      have t0 := y3.out.cell 0 rfl
      have t1 := y3.out.cell 1 rfl
      have hne : ¬ w.heap.size = w1.heap.size := by omega
      clear hb3 hto' htl y1 hb2 d0
      by_cases htx : textR 31 x = s
      · have hyes : Hid (ReadsT s x true) := reads_yes hres'.out rfl hs1.out htx
        rw [htx]
        clear htx
        go_wp2_with fail
        have z1 := Box.set (i := 1) (Box.set (i := 0) y2.out (.string kt)) (.slice b3 l3 c3)
        have z10 := z1.cell 0 rfl
        have z11 := z1.cell 1 rfl
        refine bodyPost_ret (v := .tuple #[.agg (List.toArray [.string kt, .slice b3 l3 c3]), .bool true]) (by simp [results, Try.results13, go_sem, z10, z11]) rfl ?_
        refine ⟨_, x, fs, true, rfl, TreeO_stays _ _ _ _ _ _ (fun b q => ?_) hto2.out, hnd'.out, fun b q => by have := hlo'.out b q; omega, hyes.out, (hb4.out.setCell (p := ⟨w.heap.size, 0, none⟩) (Nat.le_refl _) _).setCell (p := ⟨w.heap.size, 1, none⟩) (Nat.le_refl _) _⟩
        have := hlo'.out b q
        rw [set_other (by omega), set_other (by omega)]
      · have hno : Hid (ReadsT s zeroT false) := reads_not hres'.out htx
        have hne2 : ((textR 31 x).toList == s.toList) = false := by simpa using bd_ne htx
        have hne3 : (!((textR 31 x).toList == s.toList)) = true := by rw [hne2]; rfl
        go_wp2_with fail
        have z1 := Box.set (i := 1) (Box.set (i := 0) y2.out (.string ⟨#[]⟩)) (.slice none 0 0)
        have z10 := z1.cell 0 rfl
        have z11 := z1.cell 1 rfl
        refine bodyPost_ret (v := .tuple #[.agg (List.toArray [.string ⟨#[]⟩, .slice none 0 0]), .bool false]) (by simp [results, Try.results13, go_sem, z10, z11]) rfl ?_
        exact ⟨_, zeroT, [], false, rfl, zeroT_own (by omega) _, List.nodup_nil, by simp, hno.out, (hb4.out.setCell (p := ⟨w.heap.size, 0, none⟩) (Nat.le_refl _) _).setCell (p := ⟨w.heap.size, 1, none⟩) (Nat.le_refl _) _⟩
end Go.Proofs.Ytbodeijffpepfaa
