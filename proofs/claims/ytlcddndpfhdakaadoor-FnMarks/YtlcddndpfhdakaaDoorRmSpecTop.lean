/- ReadMark of the specification: walked. -/
import Derived.Test.YtlcddndpfhdakaaDoorRmSpec
import Derived.Test.YtlcddndpfhdakaaDoorRmTop
namespace Go.Proofs.YtlcddndpfhdakaaDoor
open Go.RowKit Go.Deep
theorem rest0 {s : ByteArray} : rest s 0 = s.data.toList := by simp [rest]
theorem md30 {s : ByteArray} {y : MarkD} (hy : CanM 31 y) (hk : okM (mzD 31 y 30) = true) (e : mtD 31 y = s.data.toList) : ∃ c, Md 30 y c (rest s 0) [] := by
  obtain ⟨c, c1, c2⟩ := ok_md hy hk e
  rw [rest0]
  exact ⟨c, Md.deep _ _ _ _ _ _ c2 c1⟩
theorem readsM_no {s : ByteArray} {p' : Nat} {x : MarkD} {b : Bool} (h : SmRes 30 s 0 p' x b) (hb : b = false) : ReadsM s zeroM false :=
  Or.inr ⟨rfl, rfl, fun _ y hy hk e => by
    obtain ⟨c, g⟩ := md30 hy hk e
    have := (h.2.2.2.2 y c [] g).1
    rw [hb] at this; cases this⟩
theorem readsM_yes {s : ByteArray} {p' : Nat} {x : MarkD} {b : Bool} (h : SmRes 30 s 0 p' x b) (hs : s.size ≤ 5000) (ht : mtR 31 x = s) (hne : ¬ s = ⟨#[]⟩) : ReadsM s x true := by
  have hok : okM (mzD 31 x 30) = true := by
    cases hq : okM (mzD 31 x 30) with
    | true => rfl
    | false => rw [mtR_no hq] at ht; exact absurd ht.symm hne
  refine Or.inl ⟨rfl, hs, h.1, ?_, hok, fun y hy hk e => ?_⟩
  · rw [mtR_yes hok] at ht; rw [← ht]
  · obtain ⟨c, g⟩ := md30 hy hk e
    exact (h.2.2.2.2 y c [] g).2.1
theorem readsM_not {s : ByteArray} {p' : Nat} {x : MarkD} {b : Bool} (h : SmRes 30 s 0 p' x b) (ht : ¬ mtR 31 x = s) : ReadsM s zeroM false :=
  Or.inr ⟨rfl, rfl, fun _ y hy hk e => by
    obtain ⟨c, g⟩ := md30 hy hk e
    obtain ⟨_, rfl, _⟩ := h.2.2.2.2 y c [] g
    apply ht
    rw [mtR_yes hk]
    exact ba_of (by rw [← e])⟩
theorem readsM_empty {s : ByteArray} (hs : s = ⟨#[]⟩) : ReadsM s zeroM false :=
  Or.inr ⟨rfl, rfl, fun _ y hy hk e => by
    obtain ⟨c, g⟩ := md30 hy hk e
    have e0 : rest s 0 = [] := by rw [hs]; rfl
    rw [e0] at g
    rcases g with ⟨_, _, _, _, h, _⟩ | ⟨_, _, _, _, _, _, _, _, _, h, _⟩
    · exact h rfl
    · cases h⟩
theorem emT_list : (⟨#[]⟩ : ByteArray).toList = [] := by kernel_rfl
theorem emT_not {s : ByteArray} (h : ¬ s = ⟨#[]⟩) : s.toList.isEmpty = false := by
  have h1 : (s.toList == (⟨#[]⟩ : ByteArray).toList) = false := by simpa using bd_ne h
  rw [emT_list] at h1
  cases hs : s.toList with
  | nil => rw [hs] at h1; cases h1
  | cons c l => rfl
set_option maxRecDepth 100000 in
set_option maxHeartbeats 4000000 in
theorem specReadMark_any {w : World} {s : ByteArray} (hs : s.size ≤ 1048576) :
    Calls Tryd.prog 14 #[.string s] w fun e w' => ReadRM s w e w' := by
  have hss : Hid (s.size ≤ 1048576) := hs
  clear hs
  have hb0 : Hid (Below w.heap.size w (w.alloc zT)) := (Below.refl _ _).alloc (Nat.le_refl _) _
  by_cases hl : (5000 : Int) < s.size
  · have hno : Hid (ReadsM s zeroM false) := Or.inr ⟨rfl, rfl, fun h => by omega⟩
    go_enter Tryd.func14, Tryd.ntmps14
    go_wp2_with fail
    exact bodyPost_ret (v := .tuple #[.agg (List.toArray [.string ⟨#[]⟩, .string ⟨#[]⟩, .slice none 0 0, .slice none 0 0]), .bool false]) (by simp [results, Tryd.results14, go_sem]) rfl (ReadRM.mk _ zeroM [] false (MarkOwn_text 30 _ ⟨#[]⟩ (Nat.zero_le _)) List.nodup_nil (by simp) hno.out hb0.out)
  · have hs1 : Hid (s.size ≤ 5000) := by show _ ≤ _; omega
    have x3 : Hid (SrAt ((w.alloc zT).alloc (.cells #[.string s, .int .i64 0] 58)) (w.heap.size + 1) s 0) := by have := Box.new (w.alloc zT) [.string s, .int .i64 0] 58; simpa [Hid, SrAt] using this
    have x1 : Hid (Box ((w.alloc zT).alloc (.cells #[.string s, .int .i64 0] 58)) w.heap.size zM4 27) := (Box.new w _ _).alloc _
    have hb1 : Hid (Below w.heap.size w ((w.alloc zT).alloc (.cells #[.string s, .int .i64 0] 58))) := hb0.out.alloc (by simp) _
    have hsz0 : ((w.alloc zT).alloc (.cells #[.string s, .int .i64 0] 58)).heap.size = w.heap.size + 2 := by simp
    go_enter Tryd.func14, Tryd.ntmps14
    go_wp2_with fail
    refine (smF_all 30 _ _ s 0 1 x3.out (Nat.zero_le _) hss.out (by omega) (by omega)).mono ?_
    rintro e w1 ⟨cs, x, fs, b, rfl, hto, hnd, hlo, ⟨p', _, hres⟩, hg1⟩
    obtain ⟨kt, ku, a2, l2, c2, a3, l3, c3, rfl⟩ := hto.form4
    have hres' : Hid (SmRes 30 s 0 p' x b) := hres
    have hto' : Hid (MarkOwn 31 (w1.alloc (.cells #[.string kt, .string ku, .slice a2 l2 c2, .slice a3 l3 c3] 27)) [.string kt, .string ku, .slice a2 l2 c2, .slice a3 l3 c3] x fs) := MarkOwn_stays _ _ _ _ _ _ (fun c hc => Below.heap_alloc _ _ _ (MarkOwn_lt _ _ _ _ _ hto c hc)) hto
    have hnd' : Hid fs.Nodup := hnd
    have hlo' : Hid (∀ b ∈ fs, w.heap.size + 2 + 1 ≤ b) := by rw [hsz0] at hlo; exact hlo
    have hb2 : Hid (Below w.heap.size w (w1.alloc (.cells #[.string kt, .string ku, .slice a2 l2 c2, .slice a3 l3 c3] 27))) := (bel_grown hb1.out (by rw [hsz0]; omega) hg1 (by omega)).alloc (by have := hg1.size; rw [hsz0] at this; omega) _
    have y1 : Hid (Box (w1.alloc (.cells #[.string kt, .string ku, .slice a2 l2 c2, .slice a3 l3 c3] 27)) w.heap.size zM4 27) := (box_grown x1.out (by omega) hg1).alloc _
    have bm : Hid (Box (w1.alloc (.cells #[.string kt, .string ku, .slice a2 l2 c2, .slice a3 l3 c3] 27)) w1.heap.size [.string kt, .string ku, .slice a2 l2 c2, .slice a3 l3 c3] 27) := Box.new w1 _ _
    have z1s : w.heap.size + 2 ≤ w1.heap.size := by have := hg1.size; rw [hsz0] at this; exact this
    clear hto hnd hlo hres hg1 x1 x3 hb1 hb0 hsz0
    have hne : ¬ w.heap.size = w1.heap.size := by omega
    have hne' : ¬ w1.heap.size = w.heap.size := by omega
    generalize hw2 : (w1.alloc (.cells #[.string kt, .string ku, .slice a2 l2 c2, .slice a3 l3 c3] 27)) = w2 at *
    cases b
    · have hno : Hid (ReadsM s zeroM false) := readsM_no hres'.out rfl
      have r0 := y1.out.cell 0 rfl
      have r1 := y1.out.cell 1 rfl
      have r2 := y1.out.cell 2 rfl
      have r3 := y1.out.cell 3 rfl
      have fR := y1.out.unfrozen
      go_wp2_with fail
      have z1 := (Box.set (i := 3) (Box.set (i := 2) (Box.set (i := 1) (Box.set (i := 0) y1.out (.string ⟨#[]⟩)) (.string ⟨#[]⟩)) (.slice none 0 0)) (.slice none 0 0))
      have z10 := z1.cell 0 rfl
      have z11 := z1.cell 1 rfl
      have z12 := z1.cell 2 rfl
      have z13 := z1.cell 3 rfl
      exact bodyPost_ret (v := .tuple #[.agg (List.toArray [.string ⟨#[]⟩, .string ⟨#[]⟩, .slice none 0 0, .slice none 0 0]), .bool false]) (by simp [results, Tryd.results14, go_sem, z10, z11, z12, z13]) rfl (ReadRM.mk (w' := putCells w2 w.heap.size 0 [.string ⟨#[]⟩, .string ⟨#[]⟩, .slice none 0 0, .slice none 0 0]) _ zeroM [] false (MarkOwn_text 30 _ ⟨#[]⟩ (Nat.zero_le _)) List.nodup_nil (by simp) (hno.out) (putCells_below _ _ _ _ _ _ (Nat.le_refl _) hb2.out))
    · have m0 := bm.out.cell 0 rfl
      have m1 := bm.out.cell 1 rfl
      have m2 := bm.out.cell 2 rfl
      have m3 := bm.out.cell 3 rfl
      go_wp2_with fail
      refine (specMarkText_any (lo := 0) (MarkOwn_at 31 _ _ _ _ hto'.out (fun _ _ => Nat.zero_le _))).mono ?_
      rintro e w3 ⟨rfl, hb3⟩
      have y3 : Hid (Box w3 w.heap.size zM4 27) := y1.out.below hb3 y1.out.lt
      have bm3 : Hid (Box w3 w1.heap.size [.string kt, .string ku, .slice a2 l2 c2, .slice a3 l3 c3] 27) := bm.out.below hb3 bm.out.lt
      have hto3 : Hid (MarkOwn 31 w3 [.string kt, .string ku, .slice a2 l2 c2, .slice a3 l3 c3] x fs) := MarkOwn_stays _ _ _ _ _ _ (fun b q => hb3.block b (MarkOwn_lt _ _ _ _ _ hto'.out b q)) hto'.out
      have hB3 : Hid (Below w.heap.size w w3) := hb2.out.trans (hb3.mono hb2.out.size)
      clear m0 m1 m2 m3 bm y1 hto' hb2 hb3 hw2
      have r0 := y3.out.cell 0 rfl
      have r1 := y3.out.cell 1 rfl
      have r2 := y3.out.cell 2 rfl
      have r3 := y3.out.cell 3 rfl
      have fR := y3.out.unfrozen
      have m0 := bm3.out.cell 0 rfl
      have m1 := bm3.out.cell 1 rfl
      have m2 := bm3.out.cell 2 rfl
      have m3 := bm3.out.cell 3 rfl
      by_cases htx : mtR 31 x = s
      · rw [htx]
        by_cases hem : s = ⟨#[]⟩
        · have hk' : Hid (ReadsM s zeroM false) := readsM_empty hem
          have hem2 : s.toList.isEmpty = true := by rw [hem, emT_list]; rfl
          clear htx hem
          go_wp2_with fail
          have z1 := (Box.set (i := 3) (Box.set (i := 2) (Box.set (i := 1) (Box.set (i := 0) y3.out (.string ⟨#[]⟩)) (.string ⟨#[]⟩)) (.slice none 0 0)) (.slice none 0 0))
          have z10 := z1.cell 0 rfl
          have z11 := z1.cell 1 rfl
          have z12 := z1.cell 2 rfl
          have z13 := z1.cell 3 rfl
          exact bodyPost_ret (v := .tuple #[.agg (List.toArray [.string ⟨#[]⟩, .string ⟨#[]⟩, .slice none 0 0, .slice none 0 0]), .bool false]) (by simp [results, Tryd.results14, go_sem, z10, z11, z12, z13]) rfl (ReadRM.mk (w' := putCells w3 w.heap.size 0 [.string ⟨#[]⟩, .string ⟨#[]⟩, .slice none 0 0, .slice none 0 0]) _ zeroM [] false (MarkOwn_text 30 _ ⟨#[]⟩ (Nat.zero_le _)) List.nodup_nil (by simp) (hk'.out) (putCells_below _ _ _ _ _ _ (Nat.le_refl _) hB3.out))
        · have hk' : Hid (ReadsM s x true) := readsM_yes hres'.out hs1.out htx hem
          have hem2 : s.toList.isEmpty = false := emT_not hem
          clear htx hem
          go_wp2_with fail
          have z1 := (Box.set (i := 3) (Box.set (i := 2) (Box.set (i := 1) (Box.set (i := 0) y3.out (.string kt)) (.string ku)) (.slice a2 l2 c2)) (.slice a3 l3 c3))
          have z10 := z1.cell 0 rfl
          have z11 := z1.cell 1 rfl
          have z12 := z1.cell 2 rfl
          have z13 := z1.cell 3 rfl
          exact bodyPost_ret (v := .tuple #[.agg (List.toArray [.string kt, .string ku, .slice a2 l2 c2, .slice a3 l3 c3]), .bool true]) (by simp [results, Tryd.results14, go_sem, z10, z11, z12, z13]) rfl (ReadRM.mk (w' := putCells w3 w.heap.size 0 [.string kt, .string ku, .slice a2 l2 c2, .slice a3 l3 c3]) _ x fs true (MarkOwn_stays _ _ _ _ _ _ (fun b q => putCells_other _ _ _ _ _ (by have := hlo'.out b q; omega)) hto3.out) hnd'.out (fun b q => by have := hlo'.out b q; omega) hk'.out (putCells_below _ _ _ _ _ _ (Nat.le_refl _) hB3.out))
      · have hno : Hid (ReadsM s zeroM false) := readsM_not hres'.out htx
        have hne2 : ((mtR 31 x).toList == s.toList) = false := by simpa using bd_ne htx
        have hne3 : (!((mtR 31 x).toList == s.toList)) = true := by rw [hne2]; rfl
        clear htx
        go_wp2_with fail
        have z1 := (Box.set (i := 3) (Box.set (i := 2) (Box.set (i := 1) (Box.set (i := 0) y3.out (.string ⟨#[]⟩)) (.string ⟨#[]⟩)) (.slice none 0 0)) (.slice none 0 0))
        have z10 := z1.cell 0 rfl
        have z11 := z1.cell 1 rfl
        have z12 := z1.cell 2 rfl
        have z13 := z1.cell 3 rfl
        exact bodyPost_ret (v := .tuple #[.agg (List.toArray [.string ⟨#[]⟩, .string ⟨#[]⟩, .slice none 0 0, .slice none 0 0]), .bool false]) (by simp [results, Tryd.results14, go_sem, z10, z11, z12, z13]) rfl (ReadRM.mk (w' := putCells w3 w.heap.size 0 [.string ⟨#[]⟩, .string ⟨#[]⟩, .slice none 0 0, .slice none 0 0]) _ zeroM [] false (MarkOwn_text 30 _ ⟨#[]⟩ (Nat.zero_le _)) List.nodup_nil (by simp) (hno.out) (putCells_below _ _ _ _ _ _ (Nat.le_refl _) hB3.out))
end Go.Proofs.YtlcddndpfhdakaaDoor
