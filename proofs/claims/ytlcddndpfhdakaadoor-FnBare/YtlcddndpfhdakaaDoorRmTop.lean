/- ReadMark of the program. -/
import Derived.Test.YtlcddndpfhdakaaDoorRWhole
import Derived.Test.YtlcddndpfhdakaaDoorMtTop
namespace Go.Proofs.YtlcddndpfhdakaaDoor
open Go.RowKit Go.Deep
/-- what ReadMark answers -/
def ReadsM (s : ByteArray) (x : MarkD) (b : Bool) : Prop :=
  (b = true ∧ s.size ≤ 5000 ∧ CanM 31 x ∧ s.data.toList = mtD 31 x ∧ okM (mzD 31 x 30) = true ∧ ∀ y, CanM 31 y → okM (mzD 31 y 30) = true → mtD 31 y = s.data.toList → x = y) ∨ (b = false ∧ x = zeroM ∧ (s.size ≤ 5000 → ∀ y, CanM 31 y → okM (mzD 31 y 30) = true → mtD 31 y = s.data.toList → False))
theorem ReadsM.one {s : ByteArray} {x y : MarkD} {a b : Bool} (h : ReadsM s x a) (k : ReadsM s y b) : x = y ∧ a = b := by
  rcases h with ⟨rfl, h1, h2, h3, h4, h5⟩ | ⟨rfl, h1, h2⟩
  · rcases k with ⟨rfl, k1, k2, k3, k4, _⟩ | ⟨rfl, k1, k2⟩
    · exact ⟨h5 y k2 k4 k3.symm, rfl⟩
    · exact (k2 h1 x h2 h4 h3.symm).elim
  · rcases k with ⟨rfl, k1, k2, k3, k4, _⟩ | ⟨rfl, k1, k2⟩
    · exact (h2 k1 y k2 k4 k3.symm).elim
    · exact ⟨by rw [h1, k1], rfl⟩
theorem ok_md {y : MarkD} {l : List UInt8} (h : CanM 31 y) (hk : okM (mzD 31 y 30) = true) (e : mtD 31 y = l) : ∃ c, c ≤ 30 ∧ Md 31 y c l [] := by
  cases hq : mzD 31 y 30 with
  | none => rw [hq] at hk; cases hk
  | some m =>
    obtain ⟨c, e1, e2⟩ := md_of 31 y 30 m h hq [] (fun _ d z e => by cases e)
    have := mzD_range 31 y 30 m hq
    rw [List.append_nil, e] at e2
    exact ⟨c, by omega, e2⟩
theorem readsM_none {s : ByteArray} {x : MarkD} (h : RdW s x false) : ReadsM s zeroM false := by
  rcases h with ⟨h, _⟩ | ⟨_, _, h⟩
  · cases h
  · exact Or.inr ⟨rfl, rfl, fun hs y hy hk e => by obtain ⟨c, c1, c2⟩ := ok_md hy hk e; exact h hs _ _ _ c2 c1⟩
theorem readsM_wrong {s : ByteArray} {x : MarkD} (h : RdW s x true) (hx : okM (mzD 31 x 30) = false) : ReadsM s zeroM false := by
  rcases h with ⟨_, h1, h2, h3, h4⟩ | ⟨h, _⟩
  · refine Or.inr ⟨rfl, rfl, fun hs y hy hk e => ?_⟩
    obtain ⟨c, c1, c2⟩ := ok_md hy hk e
    obtain rfl := h4 _ _ _ c2 c1
    rw [hk] at hx; cases hx
  · cases h
theorem readsM_of {s : ByteArray} {x : MarkD} (h : RdW s x true) (hx : okM (mzD 31 x 30) = true) : ReadsM s x true := by
  rcases h with ⟨_, h1, h2, h3, h4⟩ | ⟨h, _⟩
  · exact Or.inl ⟨rfl, h1, h2, h3, hx, fun y hy hk e => by obtain ⟨c, c1, c2⟩ := ok_md hy hk e; exact h4 _ _ _ c2 c1⟩
  · cases h
def ReadRM (s : ByteArray) (w : World) (e : Ending) (w' : World) : Prop := ∃ (cs : List Value) (x : MarkD) (fs : List Nat) (b : Bool), e = .returned (.tuple #[.agg cs.toArray, .bool b]) ∧ MarkOwn 31 w' cs x fs ∧ fs.Nodup ∧ (∀ b ∈ fs, w.heap.size ≤ b) ∧ ReadsM s x b ∧ Below w.heap.size w w'
theorem ReadRM.mk {s : ByteArray} {w w' : World} (cs : List Value) (x : MarkD) (fs : List Nat) (b : Bool) (h1 : MarkOwn 31 w' cs x fs) (h2 : fs.Nodup) (h3 : ∀ b ∈ fs, w.heap.size ≤ b) (h4 : ReadsM s x b) (h5 : Below w.heap.size w w') : ReadRM s w (.returned (.tuple #[.agg cs.toArray, .bool b])) w' := ⟨cs, x, fs, b, rfl, h1, h2, h3, h4, h5⟩
set_option maxRecDepth 100000 in
set_option maxHeartbeats 2000000 in
theorem implReadMark_any {w : World} {s : ByteArray} (hs : s.size ≤ 1048576) (hsg : Signs w) :
    Calls Tryd.prog 9 #[.string s] w fun e w' => ReadRM s w e w' := by
  have hs' : Hid (s.size ≤ 1048576) := hs
  have hsg' : Hid (Signs w) := hsg
  clear hs hsg
  have hb0 : Hid (Below w.heap.size w (w.alloc zT)) := (Below.refl _ _).alloc (Nat.le_refl _) _
  have x1 : Hid (Box (w.alloc zT) w.heap.size zM4 27) := Box.new w _ _
  have hsg1 : Hid (Signs (w.alloc zT)) := Signs.all hsg'.out hb0.out
  clear hsg'
  go_enter Tryd.func9, Tryd.ntmps9
  go_wp2_with fail
  refine (readWhole_any hs'.out hsg1.out).mono ?_
  rintro e w1 ⟨kt, ku, a2, l2, c2, a3, l3, c3, x, fs, b, rfl, hto, hnd, hlo, hr, hb1⟩
  have y1 : Hid (Box w1 w.heap.size zM4 27) := x1.out.below hb1 x1.out.lt
  have hto' : Hid (MarkOwn 31 w1 [.string kt, .string ku, .slice a2 l2 c2, .slice a3 l3 c3] x fs) := hto
  have hnd' : Hid fs.Nodup := hnd
  have hlo' : Hid (∀ b ∈ fs, w.heap.size + 1 ≤ b) := by simpa [Hid] using hlo
  have hr' : Hid (RdW s x b) := hr
  have hb1' : Hid (Below w.heap.size w w1) := hb0.out.trans (hb1.mono (by simp))
  have hz1 : w.heap.size < w1.heap.size := Nat.lt_of_lt_of_le (by simp) hb1.size
  clear hto hnd hlo hr hb1 x1 hb0 hsg1
  have hb2 : Hid (Below w1.heap.size w1 (w1.alloc (.cells #[.string kt, .string ku, .slice a2 l2 c2, .slice a3 l3 c3] 27))) := (Below.refl _ _).alloc (Nat.le_refl _) _
  have y2 : Hid (Box (w1.alloc (.cells #[.string kt, .string ku, .slice a2 l2 c2, .slice a3 l3 c3] 27)) w.heap.size zM4 27) := y1.out.below hb2.out y1.out.lt
  have bm : Hid (Box (w1.alloc (.cells #[.string kt, .string ku, .slice a2 l2 c2, .slice a3 l3 c3] 27)) w1.heap.size [.string kt, .string ku, .slice a2 l2 c2, .slice a3 l3 c3] 27) := Box.new w1 _ _
  have hto2 : Hid (MarkOwn 31 (w1.alloc (.cells #[.string kt, .string ku, .slice a2 l2 c2, .slice a3 l3 c3] 27)) [.string kt, .string ku, .slice a2 l2 c2, .slice a3 l3 c3] x fs) := MarkOwn_stays _ _ _ _ _ _ (fun b q => hb2.out.block b (MarkOwn_lt _ _ _ _ _ hto'.out b q)) hto'.out
  have hB2 : Hid (Below w.heap.size w (w1.alloc (.cells #[.string kt, .string ku, .slice a2 l2 c2, .slice a3 l3 c3] 27))) := hb1'.out.trans (hb2.out.mono hb1'.out.size)
  generalize hw2 : (w1.alloc (.cells #[.string kt, .string ku, .slice a2 l2 c2, .slice a3 l3 c3] 27)) = w2 at *
  have hz2 : w1.heap.size < w2.heap.size := bm.out.lt
  clear y1 hto' hb1' hb2
  cases b
  · have r0 := y2.out.cell 0 rfl
    have r1 := y2.out.cell 1 rfl
    have r2 := y2.out.cell 2 rfl
    have r3 := y2.out.cell 3 rfl
    have fR := y2.out.unfrozen
    go_wp2_with fail
    have z1 := (Box.set (i := 3) (Box.set (i := 2) (Box.set (i := 1) (Box.set (i := 0) y2.out (.string ⟨#[]⟩)) (.string ⟨#[]⟩)) (.slice none 0 0)) (.slice none 0 0))
    have z10 := z1.cell 0 rfl
    have z11 := z1.cell 1 rfl
    have z12 := z1.cell 2 rfl
    have z13 := z1.cell 3 rfl
    exact bodyPost_ret (v := .tuple #[.agg (List.toArray [.string ⟨#[]⟩, .string ⟨#[]⟩, .slice none 0 0, .slice none 0 0]), .bool false]) (by simp [results, Tryd.results9, go_sem, z10, z11, z12, z13]) rfl (ReadRM.mk (w' := putCells w2 w.heap.size 0 [.string ⟨#[]⟩, .string ⟨#[]⟩, .slice none 0 0, .slice none 0 0]) _ zeroM [] false (MarkOwn_text 30 _ ⟨#[]⟩ (Nat.zero_le _)) List.nodup_nil (by simp) (readsM_none hr'.out) (putCells_below _ _ _ _ _ _ (Nat.le_refl _) hB2.out))
  · have m0 := bm.out.cell 0 rfl
    have m1 := bm.out.cell 1 rfl
    have m2 := bm.out.cell 2 rfl
    have m3 := bm.out.cell 3 rfl
    go_wp2_with fail
    refine (implMarkOk_any (lo := 0) (MarkOwn_at 31 _ _ _ _ hto2.out (fun _ _ => Nat.zero_le _))).mono ?_
    rintro e w3 ⟨rfl, hb3⟩
    have y3 : Hid (Box w3 w.heap.size zM4 27) := y2.out.below hb3 y2.out.lt
    have bm3 : Hid (Box w3 w1.heap.size [.string kt, .string ku, .slice a2 l2 c2, .slice a3 l3 c3] 27) := bm.out.below hb3 bm.out.lt
    have hto3 : Hid (MarkOwn 31 w3 [.string kt, .string ku, .slice a2 l2 c2, .slice a3 l3 c3] x fs) := MarkOwn_stays _ _ _ _ _ _ (fun b q => hb3.block b (MarkOwn_lt _ _ _ _ _ hto2.out b q)) hto2.out
    have hB3 : Hid (Below w.heap.size w w3) := hB2.out.trans (hb3.mono hB2.out.size)
    have hne : ¬ w1.heap.size = w.heap.size := by omega
    clear m0 m1 m2 m3 bm y2 hto2 hB2 hb3 hw2
    have r0 := y3.out.cell 0 rfl
    have r1 := y3.out.cell 1 rfl
    have r2 := y3.out.cell 2 rfl
    have r3 := y3.out.cell 3 rfl
    have fR := y3.out.unfrozen
    have m0 := bm3.out.cell 0 rfl
    have m1 := bm3.out.cell 1 rfl
    have m2 := bm3.out.cell 2 rfl
    have m3 := bm3.out.cell 3 rfl
    rcases (by cases okM (mzD 31 x 30) <;> simp : okM (mzD 31 x 30) = false ∨ okM (mzD 31 x 30) = true) with hk | hk
    · have hk' : Hid (ReadsM s zeroM false) := readsM_wrong hr'.out hk
      rw [hk]
      clear hk
      go_wp2_with fail
      have z1 := (Box.set (i := 3) (Box.set (i := 2) (Box.set (i := 1) (Box.set (i := 0) y3.out (.string ⟨#[]⟩)) (.string ⟨#[]⟩)) (.slice none 0 0)) (.slice none 0 0))
      have z10 := z1.cell 0 rfl
      have z11 := z1.cell 1 rfl
      have z12 := z1.cell 2 rfl
      have z13 := z1.cell 3 rfl
      exact bodyPost_ret (v := .tuple #[.agg (List.toArray [.string ⟨#[]⟩, .string ⟨#[]⟩, .slice none 0 0, .slice none 0 0]), .bool false]) (by simp [results, Tryd.results9, go_sem, z10, z11, z12, z13]) rfl (ReadRM.mk (w' := putCells w3 w.heap.size 0 [.string ⟨#[]⟩, .string ⟨#[]⟩, .slice none 0 0, .slice none 0 0]) _ zeroM [] false (MarkOwn_text 30 _ ⟨#[]⟩ (Nat.zero_le _)) List.nodup_nil (by simp) (hk'.out) (putCells_below _ _ _ _ _ _ (Nat.le_refl _) hB3.out))
    · have hk' : Hid (ReadsM s x true) := readsM_of hr'.out hk
      rw [hk]
      clear hk
      go_wp2_with fail
      have z1 := (Box.set (i := 3) (Box.set (i := 2) (Box.set (i := 1) (Box.set (i := 0) y3.out (.string kt)) (.string ku)) (.slice a2 l2 c2)) (.slice a3 l3 c3))
      have z10 := z1.cell 0 rfl
      have z11 := z1.cell 1 rfl
      have z12 := z1.cell 2 rfl
      have z13 := z1.cell 3 rfl
      exact bodyPost_ret (v := .tuple #[.agg (List.toArray [.string kt, .string ku, .slice a2 l2 c2, .slice a3 l3 c3]), .bool true]) (by simp [results, Tryd.results9, go_sem, z10, z11, z12, z13]) rfl (ReadRM.mk (w' := putCells w3 w.heap.size 0 [.string kt, .string ku, .slice a2 l2 c2, .slice a3 l3 c3]) _ x fs true (MarkOwn_stays _ _ _ _ _ _ (fun b q => putCells_other _ _ _ _ _ (by have := hlo'.out b q; omega)) hto3.out) hnd'.out (fun b q => by have := hlo'.out b q; omega) hk'.out (putCells_below _ _ _ _ _ _ (Nat.le_refl _) hB3.out))
end Go.Proofs.YtlcddndpfhdakaaDoor
