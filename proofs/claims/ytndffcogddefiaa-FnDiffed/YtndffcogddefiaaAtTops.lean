/- What At returns, that of the specification and that of the program. -/
import Derived.Test.YtndffcogddefiaaCopyImpl
import Derived.Test.YtndffcogddefiaaEdSpec
import Derived.Test.YtndffcogddefiaaAtSpec
import Derived.Test.YtndffcogddefiaaOkWalks
import Derived.Test.YtndffcogddefiaaCopySpec
namespace Go.Proofs.Ytndffcogddefiaa
open Go.RowKit
theorem zeroT_own {n : Nat} (hn : 0 < n) (w : World) : TreeO n w [.string ⟨#[]⟩, .slice none 0 0] zeroT [] := by
  obtain ⟨m, rfl⟩ : ∃ m, n = m + 1 := ⟨n - 1, by omega⟩
  exact ⟨.slice none 0 0, [], rfl, ⟨none, 0, rfl, ⟨Nat.zero_le _, Nat.zero_le _⟩, Or.inl ⟨rfl, rfl⟩⟩, Nat.zero_le _, rfl⟩
/-- what At tells -/
def atD (ok : Bool) (d : TD) (path : List Int) : TD × Bool := if (ok && okP d path) = true then (endP d path, true) else (zeroT, false)
theorem atD_no {ok : Bool} {d : TD} {path : List Int} (h : (ok && okP d path) = false) : atD ok d path = (zeroT, false) := by simp [atD, h]
theorem atD_yes {ok : Bool} {d : TD} {path : List Int} (h : ok = true) (h2 : okP d path = true) : atD ok d path = (endP d path, true) := by simp [atD, h, h2]
theorem TreeAt.pos {H : Type} {w : World} {lo n : Nat} {t k : Value} {d : DataW H} (h : TreeAt w lo n t k d) : 0 < n := by
  cases n with
  | zero => exact h.elim
  | succ n => omega
theorem right_of_ok {n : Nat} {d : TD} (h : okB (szD n d 30) = true) : RightT d := by
  cases e : szD n d 30 with
  | none => rw [e] at h; cases h
  | some m => exact ⟨n, 30, m, e, Int.le_refl _⟩
theorem two_b3 (b : Bool) : b = false ∨ b = true := by cases b <;> simp
def AtAns (w w' : World) (n : Nat) (r : TD × Bool) (e : Ending) : Prop := ∃ (cs : List Value) (fs : List Nat), e = .returned (.tuple #[.agg cs.toArray, .bool r.2]) ∧ TreeO n w' cs r.1 fs ∧ fs.Nodup ∧ ∀ b ∈ fs, w.heap.size ≤ b
set_option maxHeartbeats 4000000 in
theorem implAt_any {n : Nat} {w : World} {lo lo2 : Nat} {t k kp : Value} {d : TD} {path : List Int} (ht : TreeAt w lo n t k d) (hp : SeqAt 1 IntAt w lo2 kp path) (hpl : path.length ≤ 1048576) :
    Calls Try.prog 15 #[.agg #[t, k], kp] w fun e w' => AtAns w w' n (atD (okB (szD n d 30)) d path) e ∧ Below w.heap.size w w' := by
  obtain ⟨rfl, _⟩ := ht.tag
  obtain ⟨_, a0, cap0, rfl⟩ := ht.form
  have ht0 : Hid (TreeAt w lo n _ _ d) := ht
  have hp0 : Hid (SeqAt 1 IntAt w lo2 kp path) := hp
  have hn : Hid (0 < n) := ht.pos
  clear ht hp
  have hb0 : Hid (Below w.heap.size w ((w.alloc (.cells #[.string (strT d), .slice a0 (kidsOf d).length cap0] 26)).alloc (.cells #[.string ⟨#[]⟩, .slice none 0 0] 26))) := ((Below.refl _ _).alloc (Nat.le_refl _) _).alloc (by simp) _
  have br0 : Hid (Box ((w.alloc (.cells #[.string (strT d), .slice a0 (kidsOf d).length cap0] 26)).alloc (.cells #[.string ⟨#[]⟩, .slice none 0 0] 26)) (w.heap.size + 1) [.string ⟨#[]⟩, .slice none 0 0] 26) := by
    have := Box.new (w.alloc (.cells #[.string (strT d), .slice a0 (kidsOf d).length cap0] 26)) [.string ⟨#[]⟩, .slice none 0 0] 26
    simpa [Hid] using this
  go_enter Try.func15, Try.ntmps15
  go_wp2_with fail
  refine (wayTo_any (ht0.out.below hb0.out) (hp0.out.below intAt_stays hb0.out) hpl).mono ?_
  rintro e w1 ⟨hres, hb1⟩
  have hB1 : Hid (Below w.heap.size w w1) := hb0.out.trans (hb1.mono hb0.out.size)
  have br1 : Hid (Box w1 (w.heap.size + 1) [.string ⟨#[]⟩, .slice none 0 0] 26) := br0.out.below hb1 br0.out.lt
  have hb1' : Hid (Below ((w.alloc (.cells #[.string (strT d), .slice a0 (kidsOf d).length cap0] 26)).alloc (.cells #[.string ⟨#[]⟩, .slice none 0 0] 26)).heap.size ((w.alloc (.cells #[.string (strT d), .slice a0 (kidsOf d).length cap0] 26)).alloc (.cells #[.string ⟨#[]⟩, .slice none 0 0] 26)) w1) := hb1
  clear hb1 br0
  have r0 := br1.out.cell 0 rfl
  have r1 := br1.out.cell 1 rfl
  have fR := br1.out.unfrozen
  rcases hres with ⟨hok, hoP, kw, rfl, hway⟩ | ⟨hno, rfl⟩
  · have H : Hid (atD (okB (szD n d 30)) d path = (endP d path, true)) := atD_yes hok hoP
    have hR : Hid (RightT (endP d path)) := RightT.ends path (right_of_ok hok) hoP
    obtain ⟨aw, cw, rfl, hwm, hwx⟩ := hway
    have hwl : (wayJ d path path.length).length = path.length + 1 := wayJ_length _ _ _
    obtain ⟨bw, ow, rfl, _, hbw, hwc⟩ := hwx (by omega)
    obtain ⟨cs, hcl0, lie, m, ax, cx, rfl, hm, hmn⟩ := hwc path.length (by omega)
    have hY : (wayJ d path path.length)[path.length]'(by omega) = endP d path := by rw [wayJ_get, List.take_length]
    rw [hY] at lie hm
    have z0 := lie 0 (by simp)
    have z1 := lie 1 (by simp)
    simp only [List.getElem?_cons_zero, List.getElem?_cons_succ, Nat.add_zero] at z0 z1
    have hm' : Hid (TreeAt w1 lo m (.string (strT (endP d path))) (.slice ax (kidsOf (endP d path)).length cx) (endP d path)) := hm.below hb1'.out
    have hwr : IntKind.i64.wrap (((path.length + 1 : Nat) : Int) - 1) = (path.length : Int) := by rw [IntKind.wrap_i64]; omega
    have hlx : (path.length : Int) < ((path.length + 1 : Nat) : Int) := by omega
    have hlx0 : (0 : Int) ≤ (path.length : Int) := by omega
    rw [hwl]
    generalize hL : path.length + 1 = L at hwr hlx
    have hmn' : Hid (m ≤ n) := hmn
    clear hok hoP lie hm hwx hwc hwm hY hcl0 hwl hL hmn
    generalize hE : endP d path = E at H hR z0 z1 hm'
    clear hE
    go_wp2_with fail
    refine (cpI_all m _ lo _ _ _ hm'.out hR.out).mono ?_
    rintro e w4 ⟨⟨cs, fs, rfl, hown, hnd, hlo⟩, hb4⟩
    have hown' : Hid (TreeO m w4 cs E fs) := hown
    have hlo' : Hid (∀ b ∈ fs, w1.heap.size ≤ b) := hlo
    have hB4 : Hid (Below w.heap.size w w4) := hB1.out.trans (hb4.mono hB1.out.size)
    have br4 : Hid (Box w4 (w.heap.size + 1) [.string ⟨#[]⟩, .slice none 0 0] 26) := br1.out.below hb4 br1.out.lt
    have hz3 : w.heap.size + 1 < w1.heap.size := br1.out.lt
    obtain ⟨kk, rfl, hs, _⟩ := hown.opened
    obtain ⟨ak, ck, rfl⟩ := hs.form
    clear hb4 hown hlo hs r0 r1 fR z0 z1
    have r0 := br4.out.cell 0 rfl
    have r1 := br4.out.cell 1 rfl
    have fR := br4.out.unfrozen
    go_wp2_with fail
    refine bodyPost_ret (v := .tuple #[.agg #[.string (strT E), .slice ak (kidsOf E).length ck], .bool true]) (by simp [results, Try.results15, go_sem, r0, r1]) rfl ⟨⟨[.string (strT E), .slice ak (kidsOf E).length ck], fs, ?_, ?_, hnd, fun b q => ?_⟩, ?_⟩
    · rw [H.out]
    · rw [H.out]
      exact TreeO_mono hmn'.out (TreeO_stays m _ _ _ _ _ (fun b q => (putCells_other [.string (strT E), .slice ak (kidsOf E).length ck] w4 (w.heap.size + 1) 0 b (by have := hlo'.out b q; omega))) hown'.out)
    · have := hlo'.out b q; omega
    · exact (hB4.out.setCell (p := ⟨w.heap.size + 1, 0, none⟩) (by simp) _).setCell (p := ⟨w.heap.size + 1, 1, none⟩) (by simp) _
  · have H : Hid (atD (okB (szD n d 30)) d path = (zeroT, false)) := atD_no hno
    clear hno
    go_wp2_with fail
    refine bodyPost_ret (v := .tuple #[.agg #[.string ⟨#[]⟩, .slice none 0 0], .bool false]) (by simp [results, Try.results15, go_sem, r0, r1]) rfl ⟨⟨[.string ⟨#[]⟩, .slice none 0 0], [], ?_, ?_, List.nodup_nil, by simp⟩, ?_⟩
    · rw [H.out]
    · rw [H.out]; exact zeroT_own hn.out _
    · exact (hB1.out.setCell (p := ⟨w.heap.size + 1, 0, none⟩) (by simp) _).setCell (p := ⟨w.heap.size + 1, 1, none⟩) (by simp) _
end Go.Proofs.Ytndffcogddefiaa
namespace Go.Proofs.Ytndffcogddefiaa
open Go.RowKit
set_option maxHeartbeats 4000000 in
theorem specAt_any {n : Nat} {w : World} {lo lo2 : Nat} {t k kp : Value} {d : TD} {path : List Int} (ht : TreeAt w lo n t k d) (hp : SeqAt 1 IntAt w lo2 kp path) :
    Calls Try.prog 58 #[.agg #[t, k], kp] w fun e w' => AtAns w w' n (atD (okB (szD n d 30)) d path) e ∧ Below w.heap.size w w' := by
  obtain ⟨rfl, _⟩ := ht.tag
  obtain ⟨_, a0, cap0, rfl⟩ := ht.form
  have ht0 : Hid (TreeAt w lo n _ _ d) := ht
  have hp0 : Hid (SeqAt 1 IntAt w lo2 kp path) := hp
  have hn : Hid (0 < n) := ht.pos
  clear ht hp
  have hb0 : Hid (Below w.heap.size w ((w.alloc (.cells #[.string (strT d), .slice a0 (kidsOf d).length cap0] 26)).alloc (.cells #[.string ⟨#[]⟩, .slice none 0 0] 26))) := ((Below.refl _ _).alloc (Nat.le_refl _) _).alloc (by simp) _
  have bx0 : Hid (Box ((w.alloc (.cells #[.string (strT d), .slice a0 (kidsOf d).length cap0] 26)).alloc (.cells #[.string ⟨#[]⟩, .slice none 0 0] 26)) w.heap.size [.string (strT d), .slice a0 (kidsOf d).length cap0] 26) := (Box.new w _ _).alloc _
  have br0 : Hid (Box ((w.alloc (.cells #[.string (strT d), .slice a0 (kidsOf d).length cap0] 26)).alloc (.cells #[.string ⟨#[]⟩, .slice none 0 0] 26)) (w.heap.size + 1) [.string ⟨#[]⟩, .slice none 0 0] 26) := by
    have := Box.new (w.alloc (.cells #[.string (strT d), .slice a0 (kidsOf d).length cap0] 26)) [.string ⟨#[]⟩, .slice none 0 0] 26
    simpa [Hid] using this
  go_enter Try.func58, Try.ntmps58
  go_wp2_with fail
  refine (l9At_any (ht0.out.below hb0.out) (hp0.out.below intAt_stays hb0.out)).mono ?_
  rintro e w1 ⟨hres, hb1⟩
  have hB1 : Hid (Below w.heap.size w w1) := hb0.out.trans (hb1.mono hb0.out.size)
  have bx1 : Hid (Box w1 w.heap.size [.string (strT d), .slice a0 (kidsOf d).length cap0] 26) := bx0.out.below hb1 bx0.out.lt
  have br1 : Hid (Box w1 (w.heap.size + 1) [.string ⟨#[]⟩, .slice none 0 0] 26) := br0.out.below hb1 br0.out.lt
  have hb1' : Hid (Below _ _ w1) := hb1
  clear hb1 bx0 br0
  obtain ⟨X, aX, nX, cX, rfl, hX⟩ : ∃ (X : ByteArray) (aX : Option Addr) (nX cX : Nat), e = .returned (.tuple #[.agg #[.string X, .slice aX nX cX], .bool (okP d path)]) ∧ (okP d path = true → ∃ m, m ≤ n ∧ TreeAt w1 lo m (.string X) (.slice aX nX cX) (endP d path)) := by
    rcases hres with ⟨e1, m, a, c, e2, hm, hmn⟩ | ⟨e1, e2⟩
    · exact ⟨_, _, _, _, by rw [e2, e1], fun _ => ⟨m, hmn, hm.below hb1'.out⟩⟩
    · exact ⟨_, _, _, _, by rw [e2, e1], fun h => by rw [e1] at h; cases h⟩
  have hX' : Hid (okP d path = true → ∃ m, m ≤ n ∧ TreeAt w1 lo m (.string X) (.slice aX nX cX) (endP d path)) := hX
  clear hres hX hb1'
  have hB2 : Hid (Below w.heap.size w (w1.alloc (.cells #[.string X, .slice aX nX cX] 26))) := hB1.out.alloc hB1.out.size _
  have bx2 : Hid (Box (w1.alloc (.cells #[.string X, .slice aX nX cX] 26)) w.heap.size [.string (strT d), .slice a0 (kidsOf d).length cap0] 26) := bx1.out.alloc _
  have br2 : Hid (Box (w1.alloc (.cells #[.string X, .slice aX nX cX] 26)) (w.heap.size + 1) [.string ⟨#[]⟩, .slice none 0 0] 26) := br1.out.alloc _
  have bX2 : Hid (Box (w1.alloc (.cells #[.string X, .slice aX nX cX] 26)) w1.heap.size [.string X, .slice aX nX cX] 26) := Box.new w1 _ _
  have hb12 : Hid (Below w1.heap.size w1 (w1.alloc (.cells #[.string X, .slice aX nX cX] 26))) := (Below.refl _ _).alloc (Nat.le_refl _) _
  have hlt1 : w.heap.size + 1 < w1.heap.size := br1.out.lt
  have hlt0 : w.heap.size < w1.heap.size := by omega
  have c0 := bx1.out.cell 0 rfl
  have c1 := bx1.out.cell 1 rfl
  clear bx1 br1 hB1
  go_wp2_with fail
  generalize (w1.alloc (.cells #[.string X, .slice aX nX cX] 26)) = W at hB2 bx2 br2 bX2 hb12
  clear c0 c1
  refine (specTreeOk_any (ht0.out.below hB2.out)).mono ?_
  rintro e w3 ⟨rfl, hb3⟩
  have hB3 : Hid (Below w.heap.size w w3) := hB2.out.trans (hb3.mono hB2.out.size)
  have br3 : Hid (Box w3 (w.heap.size + 1) [.string ⟨#[]⟩, .slice none 0 0] 26) := br2.out.below hb3 br2.out.lt
  have bX3 : Hid (Box w3 w1.heap.size [.string X, .slice aX nX cX] 26) := bX2.out.below hb3 bX2.out.lt
  have hb13 : Hid (Below w1.heap.size w1 w3) := hb12.out.trans (hb3.mono hb12.out.size)
  clear hb3 bx2 br2 bX2 hB2 hb12
  have r0 := br3.out.cell 0 rfl
  have r1 := br3.out.cell 1 rfl
  have fR := br3.out.unfrozen
  rcases two_b3 (okB (szD n d 30)) with hok | hok
  · have H : Hid (atD (okB (szD n d 30)) d path = (zeroT, false)) := atD_no (by rw [hok]; rfl)
    rw [hok]
    clear hok
    go_wp2_with fail
    refine bodyPost_ret (v := .tuple #[.agg #[.string ⟨#[]⟩, .slice none 0 0], .bool false]) (by simp [results, Try.results58, go_sem, r0, r1]) rfl ⟨⟨[.string ⟨#[]⟩, .slice none 0 0], [], ?_, ?_, List.nodup_nil, by simp⟩, ?_⟩
    · rw [H.out]
    · rw [H.out]; exact zeroT_own hn.out _
    · exact (hB3.out.setCell (p := ⟨w.heap.size + 1, 0, none⟩) (by simp) _).setCell (p := ⟨w.heap.size + 1, 1, none⟩) (by simp) _
  have hok' : Hid (okB (szD n d 30) = true) := hok
  rw [hok]
  clear hok
  rcases two_b3 (okP d path) with hoP | hoP
  · have H : Hid (atD (okB (szD n d 30)) d path = (zeroT, false)) := atD_no (by rw [hoP]; simp)
    rw [hoP]
    clear hoP
    go_wp2_with fail
    refine bodyPost_ret (v := .tuple #[.agg #[.string ⟨#[]⟩, .slice none 0 0], .bool false]) (by simp [results, Try.results58, go_sem, r0, r1]) rfl ⟨⟨[.string ⟨#[]⟩, .slice none 0 0], [], ?_, ?_, List.nodup_nil, by simp⟩, ?_⟩
    · rw [H.out]
    · rw [H.out]; exact zeroT_own hn.out _
    · exact (hB3.out.setCell (p := ⟨w.heap.size + 1, 0, none⟩) (by simp) _).setCell (p := ⟨w.heap.size + 1, 1, none⟩) (by simp) _
  have H : Hid (atD (okB (szD n d 30)) d path = (endP d path, true)) := atD_yes hok'.out hoP
  obtain ⟨m, hmn, hm⟩ := hX'.out hoP
  have hm' : Hid (TreeAt w1 lo m (.string X) (.slice aX nX cX) (endP d path)) := hm
  have hR : Hid (RightT (endP d path)) := RightT.ends path (right_of_ok hok'.out) hoP
  rw [hoP]
  clear hm hoP
  have x0 := bX3.out.cell 0 rfl
  have x1 := bX3.out.cell 1 rfl
  go_wp2_with fail
  refine (cpS_all m _ lo _ _ _ (hm'.out.below hb13.out) hR.out).mono ?_
  rintro e w4 ⟨⟨cs, fs, rfl, hown, hnd, hlo⟩, hb4⟩
  have hown' : Hid (TreeO m w4 cs (endP d path) fs) := hown
  have hlo' : Hid (∀ b ∈ fs, w3.heap.size ≤ b) := hlo
  have hB4 : Hid (Below w.heap.size w w4) := hB3.out.trans (hb4.mono hB3.out.size)
  have br4 : Hid (Box w4 (w.heap.size + 1) [.string ⟨#[]⟩, .slice none 0 0] 26) := br3.out.below hb4 br3.out.lt
  have hz3 : w.heap.size + 1 < w3.heap.size := br3.out.lt
  obtain ⟨kk, rfl, hs, _⟩ := hown.opened
  obtain ⟨ak, ck, rfl⟩ := hs.form
  clear hb4 hown hlo hs r0 r1 fR x0 x1
  have r0 := br4.out.cell 0 rfl
  have r1 := br4.out.cell 1 rfl
  have fR := br4.out.unfrozen
  go_wp2_with fail
  refine bodyPost_ret (v := .tuple #[.agg #[.string (strT (endP d path)), .slice ak (kidsOf (endP d path)).length ck], .bool true]) (by simp [results, Try.results58, go_sem, r0, r1]) rfl ⟨⟨[.string (strT (endP d path)), .slice ak (kidsOf (endP d path)).length ck], fs, ?_, ?_, hnd, fun b q => ?_⟩, ?_⟩
  · rw [H.out]
  · rw [H.out]
    exact TreeO_mono hmn (TreeO_stays m _ _ _ _ _ (fun b q => (putCells_other [.string (strT (endP d path)), .slice ak (kidsOf (endP d path)).length ck] w4 (w.heap.size + 1) 0 b (by have := hlo'.out b q; omega))) hown'.out)
  · have := hlo'.out b q; omega
  · exact (hB4.out.setCell (p := ⟨w.heap.size + 1, 0, none⟩) (by simp) _).setCell (p := ⟨w.heap.size + 1, 1, none⟩) (by simp) _
end Go.Proofs.Ytndffcogddefiaa
