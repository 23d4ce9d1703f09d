/- The end of FnClosest: each node on the way. -/
import Derived.Test.YtddhacalnfkopaaClosest
import Derived.Test.YtddhacalnfkopaaAtTop
import Derived.Test.YtddhacalnfkopaaSamePaths
import Derived.Test.YtddhacalnfkopaaDrawClosest
import Derived.Deep.RegionHeld3
namespace Go.Proofs.Ytddhacalnfkopaa.fnClosest
open Go.RowKit Go.Deep
/-- the tree lies there, and in this block -/
def USt (A : Nat) (ta ka : Value) (xa : TD) (wr : World) : Prop := TreeAt wr 0 4 ta ka xa ∧ Box wr A [ta, ka] 33
theorem USt.below {A : Nat} {ta ka : Value} {xa : TD} {wr w' : World} (h : USt A ta ka xa wr) (hb : Below wr.heap.size wr w') : USt A ta ka xa w' := ⟨h.1.below hb, h.2.below hb h.2.lt⟩
theorem USt.cells {A : Nat} {ta ka : Value} {xa : TD} {wr : World} (h : USt A ta ka xa wr) : wr.cell? ⟨A, 0, none⟩ = some ta ∧ wr.cell? ⟨A, 1, none⟩ = some ka := ⟨h.2.cell 0 rfl, h.2.cell 1 rfl⟩
theorem ba_inj {a b : ByteArray} (h : a.toList = b.toList) : a = b := by
  rw [ByteArray.toList_eq, ByteArray.toList_eq] at h
  obtain ⟨⟨l⟩⟩ := a
  obtain ⟨⟨m⟩⟩ := b
  simpa using h
theorem clo_none {tg : Nat → ByteArray} {tag : ByteArray} : ∀ n, clo tg tag n = none → ∀ k, k < n → ¬ tg k = tag := by
  intro n
  induction n with
  | zero => intro _ k h; omega
  | succ n ih =>
    intro h k hk
    unfold clo at h
    split at h
    · cases h
    · rename_i hne
      by_cases e : k = n
      · subst e; exact hne
      · exact ih h k (by omega)
theorem clo_some {tg : Nat → ByteArray} {tag : ByteArray} : ∀ n q, clo tg tag n = some q → tg q = tag ∧ ∀ k, q < k → k < n → ¬ tg k = tag := by
  intro n
  induction n with
  | zero => intro q h; cases h
  | succ n ih =>
    intro q h
    unfold clo at h
    split at h
    · rename_i he
      injection h with h
      subst h
      exact ⟨he, fun k h1 h2 => by omega⟩
    · rename_i hne
      obtain ⟨h1, h2⟩ := ih q h
      refine ⟨h1, fun k k1 k2 => ?_⟩
      by_cases e : k = n
      · subst e; exact hne
      · exact h2 k k1 (by omega)
/-- what is told, in three cases -/
def Told (xa : TD) (path C1 : List Int) (tag : ByteArray) (isb : Bool) : Prop :=
  ((okB (szD 4 xa 30) && okP xa path) = false ∧ isb = false) ∨ ((okB (szD 4 xa 30) && okP xa path) = true ∧ isb = false ∧ ∀ k, k ≤ path.length → ¬ strT (endP xa (path.take k)) = tag) ∨
    ((okB (szD 4 xa 30) && okP xa path) = true ∧ isb = true ∧ ∃ q, q ≤ path.length ∧ C1 = path.take q ∧ strT (endP xa (path.take q)) = tag ∧ ∀ k, q < k → k ≤ path.length → ¬ strT (endP xa (path.take k)) = tag)
theorem told_any (xa : TD) (path : List Int) (tag : ByteArray) : Told xa path (closeD (okB (szD 4 xa 30)) xa path tag).1 tag (closeD (okB (szD 4 xa 30)) xa path tag).2 := by
  cases e : (okB (szD 4 xa 30) && okP xa path) with
  | false => exact Or.inl ⟨e, by rw [closeD_no e]⟩
  | true =>
    obtain ⟨e1, e2⟩ : okB (szD 4 xa 30) = true ∧ okP xa path = true := by simpa using e
    rw [closeD_yes e1 e2]
    cases h : clo (tgC xa path) tag (path.length + 1) with
    | none => exact Or.inr (Or.inl ⟨e, rfl, fun k hk => clo_none _ h k (by omega)⟩)
    | some q =>
      obtain ⟨h1, h2⟩ := clo_some _ _ h
      have h3 := clo_le h
      exact Or.inr (Or.inr ⟨e, rfl, q, by omega, rfl, h1, fun k k1 k2 => h2 k k1 (by omega)⟩)
/-- what stands behind so many pieces -/
def dropSeq : Nat → Code → Code
  | 0, c => c
  | k + 1, .seq _ b => dropSeq k b
  | _ + 1, c => c
noncomputable def codeAt (k : Nat) : Code := dropSeq k (Try.f7.body.getD .skip)
set_option maxRecDepth 100000 in
set_option maxHeartbeats 8000000 in
theorem tail_any {w0 wc : World} {A : Nat} {aa ap ar : Option Addr} {ca cp cr : Nat} {xa : TD} {path C1 : List Int} {tag : ByteArray} {isb : Bool} {x0 x1 x2 x8 x9 y15 y16 y17 y18 y19 y20 y21 y22 y23 y24 y25 y26 y27 y28 y29 y30 y31 y32 y33 y34 y35 y36 y37 y38 y39 y40 y41 y42 y43 y44 y45 : Value} (htold : Told xa path C1 tag isb) (hpl : Hid (path.length ≤ 5)) (hcp : Hid (path.length ≤ cp)) (hG : Hid (USt A (.string (strT xa)) (.slice aa (kidsOf xa).length ca) xa wc)) (hP : Hid (SeqAt 1 IntAt wc 0 (.slice ap path.length cp) path)) (hR : Hid (SeqAt 1 IntAt wc 0 (.slice ar C1.length cr) C1)) (hB : Hid (Below w0.heap.size w0 wc)) :
    Code.wp Try.prog (codeAt 6) (bodyPost Try.prog Try.f7 fun e w' => e = .returned (.bool true) ∧ Below w0.heap.size w0 w') ⟨#[x0, x1, x2, .pointer (some ⟨A, 0, none⟩), .slice ap path.length cp, .string tag, .slice ar C1.length cr, .bool isb, x8, x9, undef, undef, undef, undef, undef, y15, y16, y17, y18, y19, y20, y21, y22, y23, y24, y25, y26, y27, y28, y29, y30, y31, y32, y33, y34, y35, y36, y37, y38, y39, y40, y41, y42, y43, y44, y45, undef, undef, undef, undef, undef, undef, undef, undef, undef, undef, undef, undef, undef, undef, undef, undef, undef, undef, undef, undef, undef, undef, undef, undef, undef, undef, undef, undef, undef, undef, undef, undef, undef, undef, undef, undef, undef, undef, undef, undef, undef, undef, undef, undef, undef, undef, undef, undef, undef, undef, undef, undef, undef, undef, undef, undef, undef, undef, undef, undef, undef, undef, undef, undef, undef, undef, undef, undef, undef], []⟩ wc := by
  conv => arg 2; whnf
  obtain ⟨a0, a1⟩ := USt.cells hG.out
  have hpl5 := hpl.out
  rcases htold with ⟨h1, rfl⟩ | ⟨h1, rfl, h2⟩ | ⟨h1, rfl, qq, hqq, rfl, h2, h3⟩
  · have hth : Hid ((okB (szD 4 xa 30) && okP xa path) = false) := h1
    clear h1
    go_wp2_with fail
    refine (implAt_any (n := 4) (by exact hG.out.1) (by exact hP.out) (by have := hpl.out; omega)).mono ?_
    rintro e w1 ⟨⟨cs, fs, rfl, hO, _, _⟩, hb1⟩
    rw [atD_no hth.out] at hO ⊢
    obtain ⟨k1, rfl, hks, _⟩ := hO.opened
    obtain ⟨a5, c5, rfl⟩ := hks.form
    have hbb : ∀ o, Below wc.heap.size wc (w1.alloc o) := fun o => hb1.alloc hb1.size _
    have hB1 : ∀ o, Below w0.heap.size w0 (w1.alloc o) := fun o => hB.out.trans ((hbb o).mono hB.out.size)
    clear hks hO hb1 hbb a0 a1 hG hP hR hB
    go_wp2_with fail
    go_loopw [12] (fun i wr => i = .int .i64 0 ∧ Hid (Below w0.heap.size w0 wr)) (fun _ _ => 0)
    case atStart => exact ⟨rfl, hB1 _⟩
    case round =>
      obtain ⟨rfl, hBr⟩ := hrel
      have hz : (0 : Int) ≤ (path.length : Int) := by omega
      go_wp2_with fail
      go_ret
      exact ⟨by first | rfl | simp, hBr.out⟩
  · obtain ⟨z1, z2⟩ : okB (szD 4 xa 30) = true ∧ okP xa path = true := by simpa using h1
    have hok : Hid (okB (szD 4 xa 30) = true) := z1
    have hoP : Hid (okP xa path = true) := z2
    have hno : Hid (∀ k, k ≤ path.length → ¬ strT (endP xa (path.take k)) = tag) := h2
    clear h1 z1 z2 h2
    go_wp2_with fail
    refine (implAt_any (n := 4) (by exact hG.out.1) (by exact hP.out) (by have := hpl.out; omega)).mono ?_
    rintro e w1 ⟨⟨cs, fs, rfl, hO, _, _⟩, hb1⟩
    rw [atD_yes hok.out hoP.out] at hO ⊢
    obtain ⟨k1, rfl, hks, _⟩ := hO.opened
    obtain ⟨a5, c5, rfl⟩ := hks.form
    have hbb : ∀ o, Below wc.heap.size wc (w1.alloc o) := fun o => hb1.alloc hb1.size _
    have hGx : ∀ o, Hid (USt A (.string (strT xa)) (.slice aa (kidsOf xa).length ca) xa (w1.alloc o)) := fun o => hG.out.below (hbb o)
    have hPx : ∀ o, Hid (SeqAt 1 IntAt (w1.alloc o) 0 (.slice ap path.length cp) path) := fun o => hP.out.below intAt_stays (hbb o)
    have hRx : ∀ o, Hid (SeqAt 1 IntAt (w1.alloc o) 0 (.slice ar C1.length cr) C1) := fun o => hR.out.below intAt_stays (hbb o)
    have hBx : ∀ o, Hid (Below w0.heap.size w0 (w1.alloc o)) := fun o => hB.out.trans ((hbb o).mono hB.out.size)
    have hG1 := hGx (.cells #[.string (strT (endP xa path)), .slice a5 (kidsOf (endP xa path)).length c5] 33)
    have hP1 := hPx (.cells #[.string (strT (endP xa path)), .slice a5 (kidsOf (endP xa path)).length c5] 33)
    have hR1 := hRx (.cells #[.string (strT (endP xa path)), .slice a5 (kidsOf (endP xa path)).length c5] 33)
    have hB1 := hBx (.cells #[.string (strT (endP xa path)), .slice a5 (kidsOf (endP xa path)).length c5] 33)
    clear hks hO hb1 hbb a0 a1 hG hP hR hB hGx hPx hRx hBx
    go_wp2_with fail
    go_loopw [12] (fun i wr => ∃ (k : Nat), k ≤ path.length + 1 ∧ i = .int .i64 k ∧ Hid (USt A (.string (strT xa)) (.slice aa (kidsOf xa).length ca) xa wr) ∧ Hid (SeqAt 1 IntAt wr 0 (.slice ap path.length cp) path) ∧ Hid (SeqAt 1 IntAt wr 0 (.slice ar C1.length cr) C1) ∧ Hid (Below w0.heap.size w0 wr)) (fun i _ => path.length + 1 - (intOf i).toNat)
    case atStart => exact ⟨0, Nat.zero_le _, rfl, hG1, hP1, hR1, hB1⟩
    case round =>
      obtain ⟨k, hk, rfl, hGr, hPr, hRr, hBr⟩ := hrel
      by_cases hlt : k ≤ path.length
      · have hlt' : (k : Int) ≤ (path.length : Int) := by omega
        have hcut := cutI (a := ap) (n := path.length) (cap := cp) (j := k) (by have := hcp.out; omega)
        obtain ⟨q0, q1⟩ := USt.cells hGr.out
        go_wp2_with fail
        have hGd : Hid (USt A (.string (strT xa)) (.slice aa (kidsOf xa).length ca) xa wr.drew) := hGr.out.below (Below.drew (Below.refl _ _))
        have hPd : Hid (SeqAt 1 IntAt wr.drew 0 (.slice ap k cp) (path.take k)) := SeqAt.take (hPr.out.below intAt_stays (Below.drew (Below.refl _ _))) k hlt
        clear q0 q1
        obtain ⟨q0, q1⟩ := USt.cells hGd.out
        refine wp_region_held_drew (S := fun w' => w'.cell? ⟨A, 0, none⟩ = some (.string (strT xa)) ∧ w'.cell? ⟨A, 1, none⟩ = some (.slice aa (kidsOf xa).length ca)) (by kernel_rfl) ⟨q0, q1⟩ (fun hHeld => ?_)
        refine take_lit (i := 0) (d := 62) (v := ?_) rfl rfl (by kernel_rfl) (by kernel_rfl) (by kernel_rfl) (fun _ _ _ h => h) (Or.inl ⟨by rfl, ?_⟩) (by assumption) ?_
        rotate_left
        · (intro w hSw; (try dsimp only at hSw); first | (go_simp; done) | (go_simp; with_reducible rfl))
        simp only [List.set_cons_zero, List.set_cons_succ]
        refine take_lit (i := 1) (d := 63) (v := ?_) rfl rfl (by kernel_rfl) (by kernel_rfl) (by kernel_rfl) (fun _ _ _ h => h) (Or.inl ⟨by rfl, ?_⟩) (by assumption) ?_
        rotate_left
        · (intro w hSw; (try dsimp only at hSw); first | (go_simp; done) | (go_simp; with_reducible rfl))
        simp only [List.set_cons_zero, List.set_cons_succ]
        refine take_lit (i := 2) (d := 64) (v := ?_) rfl rfl (by kernel_rfl) (by kernel_rfl) (by kernel_rfl) (fun _ _ _ h => h) (Or.inl ⟨by rfl, ?_⟩) (by assumption) ?_
        rotate_left
        · (intro w hSw; (try dsimp only at hSw); first | (go_simp; done) | (go_simp; with_reducible rfl))
        simp only [List.set_cons_zero, List.set_cons_succ]
        refine take_lit (i := 3) (d := 65) (v := .slice ap k cp) rfl rfl (by kernel_rfl) (by kernel_rfl) (by kernel_rfl) (fun _ _ _ h => h) (Or.inl ⟨by rfl, ?_⟩) (by assumption) ?_
        · (intro w hSw; (try dsimp only at hSw); go_simp)
        simp only [List.set_cons_zero, List.set_cons_succ]
        refine wpAnyH_ready (rs := [4, 8]) (by kernel_rfl) (by simp) ?_
        refine (AllReadyH.cons rfl (fun K hK => ?_) (AllReadyH.cons rfl (fun K hK => ?_) AllReadyH.nil))
        · go_simp
          refine (implAt_any (n := 4) (by exact hGd.out.1) (by exact hPd.out) (by rw [List.length_take]; have := hpl.out; omega)).mono ?_
          rintro e w2 ⟨⟨cs, fs, rfl, hO, _, _⟩, hb2⟩
          rw [hok.out, atD_yes rfl (okP_take hoP.out k)] at hO
          obtain ⟨k1, rfl, hks, _⟩ := hO.opened
          obtain ⟨a5, c5, rfl⟩ := hks.form
          rw [hok.out, atD_yes rfl (okP_take hoP.out k)]
          have hB2 : Hid (Below wr.drew.heap.size wr.drew w2) := hb2
          clear hks hO
          refine hK.out _ _ ⟨cell_on hB2.out q0, cell_on hB2.out q1⟩ (fun hHeld => ?_)
          clear hK K
          refine take_lit (i := 5) (d := 61) (v := ?_) rfl rfl (by kernel_rfl) (by kernel_rfl) (by kernel_rfl) (fun _ _ _ h => h) (Or.inl ⟨by rfl, ?_⟩) (by assumption) ?_
          rotate_left
          · (intro w hSw; (try dsimp only at hSw); first | (go_simp; done) | (go_simp; with_reducible rfl))
          simp only [List.set_cons_zero, List.set_cons_succ]
          refine take_lit (i := 6) (d := 67) (v := ?_) rfl rfl (by kernel_rfl) (by kernel_rfl) (by kernel_rfl) (fun _ _ _ h => h) (Or.inl ⟨by rfl, ?_⟩) (by assumption) ?_
          rotate_left
          · (intro w hSw; (try dsimp only at hSw); first | (go_simp; done) | (go_simp; with_reducible rfl))
          simp only [List.set_cons_zero, List.set_cons_succ]
          refine take_lit (i := 7) (d := 68) (v := ?_) rfl rfl (by kernel_rfl) (by kernel_rfl) (by kernel_rfl) (fun _ _ _ h => h) (Or.inl ⟨by rfl, ?_⟩) (by assumption) ?_
          rotate_left
          · (intro w hSw; (try dsimp only at hSw); first | (go_simp; done) | (go_simp; with_reducible rfl))
          simp only [List.set_cons_zero, List.set_cons_succ]
          refine wpAnyH_ready (rs := [8]) (by kernel_rfl) (by simp) ?_
          refine AllReadyH.cons rfl (fun K hK => ?_) AllReadyH.nil
          go_simp
          have hB3 : Hid (Below wr.drew.heap.size wr.drew (w2.alloc (.cells #[.string ⟨#[]⟩, .slice none 0 0] 33))) := hB2.out.alloc hB2.out.size _
          refine hK.out _ _ ⟨cell_on hB3.out q0, cell_on hB3.out q1⟩ (fun hHeld => ?_)
          clear hK K
          refine wpAnyH_ready (rs := [9]) (by kernel_rfl) (by simp) ?_
          refine AllReadyH.cons rfl (fun K hK => ?_) AllReadyH.nil
          have hB4 : Hid (Below wr.drew.heap.size wr.drew (w2.alloc (.cells #[.string (strT (endP xa (path.take k))), .slice a5 (kidsOf (endP xa (path.take k))).length c5] 33))) := hB2.out.alloc hB2.out.size _
          have bX4 : Hid (Box (w2.alloc (.cells #[.string (strT (endP xa (path.take k))), .slice a5 (kidsOf (endP xa (path.take k))).length c5] 33)) (w2.heap.size) [.string (strT (endP xa (path.take k))), .slice a5 (kidsOf (endP xa (path.take k))).length c5] 33) := Box.new w2 _ _
          go_simp
          refine hK.out _ _ ⟨cell_on hB4.out q0, cell_on hB4.out q1⟩ (fun hHeld => ?_)
          clear hK K
          refine take_lit (i := 10) (d := 14) (v := ?_) rfl rfl (by kernel_rfl) (by kernel_rfl) (by kernel_rfl) (fun _ _ _ h => h) (Or.inl ⟨by rfl, ?_⟩) (by assumption) ?_
          rotate_left
          · (intro w hSw; (try dsimp only at hSw); first | (go_simp; done) | (go_simp; with_reducible rfl))
          simp only [List.set_cons_zero, List.set_cons_succ]
          refine wpAnyH_done (by kernel_rfl) ?_ _
          have hBz : Hid (Below wr.heap.size wr _) := undrew hB4.out
          have m0 := bX4.out.cell 0 rfl
          have hGz : Hid (USt A (.string (strT xa)) (.slice aa (kidsOf xa).length ca) xa _) := hGr.out.below hBz.out
          clear q0 q1
          have hne : ¬ strT (endP xa (path.take k)) = tag := hno.out k (by omega)
          have hne1 : (strT (endP xa (path.take k))).toList ≠ tag.toList := fun e => hne (ba_inj e)
          have hne2 : ((strT (endP xa (path.take k))).toList == tag.toList) = false := by simpa using hne1
          clear hne
          go_wp2_with fail
          go_roundw
          case rel => exact ⟨k + 1, by omega, by go_num, hGz, hPr.out.below intAt_stays hBz.out, hRr.out.below intAt_stays hBz.out, hBr.out.trans (hBz.out.mono hBr.out.size)⟩
          case measure => simp [intOf]; omega
        · go_simp
          have hbX : Hid (Below wr.drew.heap.size wr.drew (wr.drew.alloc (.cells #[.string ⟨#[]⟩, .slice none 0 0] 33))) := (Below.refl _ _).alloc (Nat.le_refl _) _
          have bX : Hid (Box (wr.drew.alloc (.cells #[.string ⟨#[]⟩, .slice none 0 0] 33)) wr.heap.size [.string ⟨#[]⟩, .slice none 0 0] 33) := Box.new wr.drew _ _
          refine hK.out _ _ ⟨cell_on hbX.out q0, cell_on hbX.out q1⟩ (fun hHeld => ?_)
          clear hK K
          refine wpAnyH_ready (rs := [4]) (by kernel_rfl) (by simp) ?_
          refine AllReadyH.cons rfl (fun K hK => ?_) AllReadyH.nil
          go_simp
          refine (implAt_any (n := 4) (by exact (hGd.out.1.below hbX.out)) (by exact (hPd.out.below intAt_stays hbX.out)) (by rw [List.length_take]; have := hpl.out; omega)).mono ?_
          rintro e w2 ⟨⟨cs, fs, rfl, hO, _, _⟩, hb2⟩
          rw [hok.out, atD_yes rfl (okP_take hoP.out k)] at hO
          obtain ⟨k1, rfl, hks, _⟩ := hO.opened
          obtain ⟨a5, c5, rfl⟩ := hks.form
          rw [hok.out, atD_yes rfl (okP_take hoP.out k)]
          have hB2 : Hid (Below wr.drew.heap.size wr.drew w2) := hbX.out.trans (hb2.mono hbX.out.size)
          have bX2 : Hid (Box w2 wr.heap.size [.string ⟨#[]⟩, .slice none 0 0] 33) := bX.out.below hb2 bX.out.lt
          clear hks hO
          refine hK.out _ _ ⟨cell_on hB2.out q0, cell_on hB2.out q1⟩ (fun hHeld => ?_)
          clear hK K
          refine take_lit (i := 5) (d := 61) (v := ?_) rfl rfl (by kernel_rfl) (by kernel_rfl) (by kernel_rfl) (fun _ _ _ h => h) (Or.inl ⟨by rfl, ?_⟩) (by assumption) ?_
          rotate_left
          · (intro w hSw; (try dsimp only at hSw); first | (go_simp; done) | (go_simp; with_reducible rfl))
          simp only [List.set_cons_zero, List.set_cons_succ]
          refine take_lit (i := 6) (d := 67) (v := ?_) rfl rfl (by kernel_rfl) (by kernel_rfl) (by kernel_rfl) (fun _ _ _ h => h) (Or.inl ⟨by rfl, ?_⟩) (by assumption) ?_
          rotate_left
          · (intro w hSw; (try dsimp only at hSw); first | (go_simp; done) | (go_simp; with_reducible rfl))
          simp only [List.set_cons_zero, List.set_cons_succ]
          refine take_lit (i := 7) (d := 68) (v := ?_) rfl rfl (by kernel_rfl) (by kernel_rfl) (by kernel_rfl) (fun _ _ _ h => h) (Or.inl ⟨by rfl, ?_⟩) (by assumption) ?_
          rotate_left
          · (intro w hSw; (try dsimp only at hSw); first | (go_simp; done) | (go_simp; with_reducible rfl))
          simp only [List.set_cons_zero, List.set_cons_succ]
          refine wpAnyH_ready (rs := [9]) (by kernel_rfl) (by simp) ?_
          refine AllReadyH.cons rfl (fun K hK => ?_) AllReadyH.nil
          have f0 := bX2.out.unfrozen
          have g0 := bX2.out.cell 0 rfl
          have g1 := bX2.out.cell 1 rfl
          have hB4 : Hid (Below wr.drew.heap.size wr.drew (putCells w2 (wr.heap.size) 0 [.string (strT (endP xa (path.take k))), .slice a5 (kidsOf (endP xa (path.take k))).length c5])) := putCells_below [.string (strT (endP xa (path.take k))), .slice a5 (kidsOf (endP xa (path.take k))).length c5] _ _ _ (wr.heap.size) 0 (Nat.le_refl _) hB2.out
          have bX4 : Hid (Box (putCells w2 (wr.heap.size) 0 [.string (strT (endP xa (path.take k))), .slice a5 (kidsOf (endP xa (path.take k))).length c5]) (wr.heap.size) [.string (strT (endP xa (path.take k))), .slice a5 (kidsOf (endP xa (path.take k))).length c5] 33) := box_put bX2.out
          go_simp
          refine hK.out _ _ ⟨cell_on hB4.out q0, cell_on hB4.out q1⟩ (fun hHeld => ?_)
          clear hK K
          refine take_lit (i := 10) (d := 14) (v := ?_) rfl rfl (by kernel_rfl) (by kernel_rfl) (by kernel_rfl) (fun _ _ _ h => h) (Or.inl ⟨by rfl, ?_⟩) (by assumption) ?_
          rotate_left
          · (intro w hSw; (try dsimp only at hSw); first | (go_simp; done) | (go_simp; with_reducible rfl))
          simp only [List.set_cons_zero, List.set_cons_succ]
          refine wpAnyH_done (by kernel_rfl) ?_ _
          have hBz : Hid (Below wr.heap.size wr _) := undrew hB4.out
          have m0 := bX4.out.cell 0 rfl
          have hGz : Hid (USt A (.string (strT xa)) (.slice aa (kidsOf xa).length ca) xa _) := hGr.out.below hBz.out
          clear q0 q1
          have hne : ¬ strT (endP xa (path.take k)) = tag := hno.out k (by omega)
          have hne1 : (strT (endP xa (path.take k))).toList ≠ tag.toList := fun e => hne (ba_inj e)
          have hne2 : ((strT (endP xa (path.take k))).toList == tag.toList) = false := by simpa using hne1
          clear hne
          go_wp2_with fail
          go_roundw
          case rel => exact ⟨k + 1, by omega, by go_num, hGz, hPr.out.below intAt_stays hBz.out, hRr.out.below intAt_stays hBz.out, hBr.out.trans (hBz.out.mono hBr.out.size)⟩
          case measure => simp [intOf]; omega
      · have hlt' : ¬ (k : Int) ≤ (path.length : Int) := by omega
        go_wp2_with fail
        go_ret
        exact ⟨by first | rfl | simp, hBr.out⟩
  · obtain ⟨z1, z2⟩ : okB (szD 4 xa 30) = true ∧ okP xa path = true := by simpa using h1
    have hok : Hid (okB (szD 4 xa 30) = true) := z1
    have hoP : Hid (okP xa path = true) := z2
    have hyes : Hid (strT (endP xa (path.take qq)) = tag) := h2
    have hno : Hid (∀ k, qq < k → k ≤ path.length → ¬ strT (endP xa (path.take k)) = tag) := h3
    have hql : (path.take qq).length = qq := by rw [List.length_take]; omega
    rw [hql] at hR ⊢
    clear h1 z1 z2 h2 h3 hql
    go_wp2_with fail
    refine (implAt_any (n := 4) (by exact hG.out.1) (by exact hP.out) (by have := hpl.out; omega)).mono ?_
    rintro e w1 ⟨⟨cs, fs, rfl, hO, _, _⟩, hb1⟩
    rw [atD_yes hok.out hoP.out] at hO ⊢
    obtain ⟨k1, rfl, hks, _⟩ := hO.opened
    obtain ⟨a5, c5, rfl⟩ := hks.form
    have hbb : ∀ o, Below wc.heap.size wc (w1.alloc o) := fun o => hb1.alloc hb1.size _
    have hGx : ∀ o, Hid (USt A (.string (strT xa)) (.slice aa (kidsOf xa).length ca) xa (w1.alloc o)) := fun o => hG.out.below (hbb o)
    have hPx : ∀ o, Hid (SeqAt 1 IntAt (w1.alloc o) 0 (.slice ap path.length cp) path) := fun o => hP.out.below intAt_stays (hbb o)
    have hRx : ∀ o, Hid (SeqAt 1 IntAt (w1.alloc o) 0 (.slice ar qq cr) (path.take qq)) := fun o => hR.out.below intAt_stays (hbb o)
    have hBx : ∀ o, Hid (Below w0.heap.size w0 (w1.alloc o)) := fun o => hB.out.trans ((hbb o).mono hB.out.size)
    have hG1 := hGx (.cells #[.string (strT (endP xa path)), .slice a5 (kidsOf (endP xa path)).length c5] 33)
    have hP1 := hPx (.cells #[.string (strT (endP xa path)), .slice a5 (kidsOf (endP xa path)).length c5] 33)
    have hR1 := hRx (.cells #[.string (strT (endP xa path)), .slice a5 (kidsOf (endP xa path)).length c5] 33)
    have hB1 := hBx (.cells #[.string (strT (endP xa path)), .slice a5 (kidsOf (endP xa path)).length c5] 33)
    clear hks hO hb1 hbb a0 a1 hG hP hR hB hGx hPx hRx hBx
    go_wp2_with fail
    go_loopw [12] (fun i wr => ∃ (k : Nat), k ≤ path.length + 1 ∧ i = .int .i64 k ∧ Hid (USt A (.string (strT xa)) (.slice aa (kidsOf xa).length ca) xa wr) ∧ Hid (SeqAt 1 IntAt wr 0 (.slice ap path.length cp) path) ∧ Hid (SeqAt 1 IntAt wr 0 (.slice ar qq cr) (path.take qq)) ∧ Hid (Below w0.heap.size w0 wr)) (fun i _ => path.length + 1 - (intOf i).toNat)
    case atStart => exact ⟨0, Nat.zero_le _, rfl, hG1, hP1, hR1, hB1⟩
    case round =>
      obtain ⟨k, hk, rfl, hGr, hPr, hRr, hBr⟩ := hrel
      by_cases hlt : k ≤ path.length
      · have hlt' : (k : Int) ≤ (path.length : Int) := by omega
        have hcut := cutI (a := ap) (n := path.length) (cap := cp) (j := k) (by have := hcp.out; omega)
        obtain ⟨q0, q1⟩ := USt.cells hGr.out
        go_wp2_with fail
        have hGd : Hid (USt A (.string (strT xa)) (.slice aa (kidsOf xa).length ca) xa wr.drew) := hGr.out.below (Below.drew (Below.refl _ _))
        have hPd : Hid (SeqAt 1 IntAt wr.drew 0 (.slice ap k cp) (path.take k)) := SeqAt.take (hPr.out.below intAt_stays (Below.drew (Below.refl _ _))) k hlt
        clear q0 q1
        obtain ⟨q0, q1⟩ := USt.cells hGd.out
        refine wp_region_held_drew (S := fun w' => w'.cell? ⟨A, 0, none⟩ = some (.string (strT xa)) ∧ w'.cell? ⟨A, 1, none⟩ = some (.slice aa (kidsOf xa).length ca)) (by kernel_rfl) ⟨q0, q1⟩ (fun hHeld => ?_)
        refine take_lit (i := 0) (d := 62) (v := ?_) rfl rfl (by kernel_rfl) (by kernel_rfl) (by kernel_rfl) (fun _ _ _ h => h) (Or.inl ⟨by rfl, ?_⟩) (by assumption) ?_
        rotate_left
        · (intro w hSw; (try dsimp only at hSw); first | (go_simp; done) | (go_simp; with_reducible rfl))
        simp only [List.set_cons_zero, List.set_cons_succ]
        refine take_lit (i := 1) (d := 63) (v := ?_) rfl rfl (by kernel_rfl) (by kernel_rfl) (by kernel_rfl) (fun _ _ _ h => h) (Or.inl ⟨by rfl, ?_⟩) (by assumption) ?_
        rotate_left
        · (intro w hSw; (try dsimp only at hSw); first | (go_simp; done) | (go_simp; with_reducible rfl))
        simp only [List.set_cons_zero, List.set_cons_succ]
        refine take_lit (i := 2) (d := 64) (v := ?_) rfl rfl (by kernel_rfl) (by kernel_rfl) (by kernel_rfl) (fun _ _ _ h => h) (Or.inl ⟨by rfl, ?_⟩) (by assumption) ?_
        rotate_left
        · (intro w hSw; (try dsimp only at hSw); first | (go_simp; done) | (go_simp; with_reducible rfl))
        simp only [List.set_cons_zero, List.set_cons_succ]
        refine take_lit (i := 3) (d := 65) (v := .slice ap k cp) rfl rfl (by kernel_rfl) (by kernel_rfl) (by kernel_rfl) (fun _ _ _ h => h) (Or.inl ⟨by rfl, ?_⟩) (by assumption) ?_
        · (intro w hSw; (try dsimp only at hSw); go_simp)
        simp only [List.set_cons_zero, List.set_cons_succ]
        refine wpAnyH_ready (rs := [4, 8]) (by kernel_rfl) (by simp) ?_
        refine (AllReadyH.cons rfl (fun K hK => ?_) (AllReadyH.cons rfl (fun K hK => ?_) AllReadyH.nil))
        · go_simp
          refine (implAt_any (n := 4) (by exact hGd.out.1) (by exact hPd.out) (by rw [List.length_take]; have := hpl.out; omega)).mono ?_
          rintro e w2 ⟨⟨cs, fs, rfl, hO, _, _⟩, hb2⟩
          rw [hok.out, atD_yes rfl (okP_take hoP.out k)] at hO
          obtain ⟨k1, rfl, hks, _⟩ := hO.opened
          obtain ⟨a5, c5, rfl⟩ := hks.form
          rw [hok.out, atD_yes rfl (okP_take hoP.out k)]
          have hB2 : Hid (Below wr.drew.heap.size wr.drew w2) := hb2
          clear hks hO
          refine hK.out _ _ ⟨cell_on hB2.out q0, cell_on hB2.out q1⟩ (fun hHeld => ?_)
          clear hK K
          refine take_lit (i := 5) (d := 61) (v := ?_) rfl rfl (by kernel_rfl) (by kernel_rfl) (by kernel_rfl) (fun _ _ _ h => h) (Or.inl ⟨by rfl, ?_⟩) (by assumption) ?_
          rotate_left
          · (intro w hSw; (try dsimp only at hSw); first | (go_simp; done) | (go_simp; with_reducible rfl))
          simp only [List.set_cons_zero, List.set_cons_succ]
          refine take_lit (i := 6) (d := 67) (v := ?_) rfl rfl (by kernel_rfl) (by kernel_rfl) (by kernel_rfl) (fun _ _ _ h => h) (Or.inl ⟨by rfl, ?_⟩) (by assumption) ?_
          rotate_left
          · (intro w hSw; (try dsimp only at hSw); first | (go_simp; done) | (go_simp; with_reducible rfl))
          simp only [List.set_cons_zero, List.set_cons_succ]
          refine take_lit (i := 7) (d := 68) (v := ?_) rfl rfl (by kernel_rfl) (by kernel_rfl) (by kernel_rfl) (fun _ _ _ h => h) (Or.inl ⟨by rfl, ?_⟩) (by assumption) ?_
          rotate_left
          · (intro w hSw; (try dsimp only at hSw); first | (go_simp; done) | (go_simp; with_reducible rfl))
          simp only [List.set_cons_zero, List.set_cons_succ]
          refine wpAnyH_ready (rs := [8]) (by kernel_rfl) (by simp) ?_
          refine AllReadyH.cons rfl (fun K hK => ?_) AllReadyH.nil
          go_simp
          have hB3 : Hid (Below wr.drew.heap.size wr.drew (w2.alloc (.cells #[.string ⟨#[]⟩, .slice none 0 0] 33))) := hB2.out.alloc hB2.out.size _
          refine hK.out _ _ ⟨cell_on hB3.out q0, cell_on hB3.out q1⟩ (fun hHeld => ?_)
          clear hK K
          refine wpAnyH_ready (rs := [9]) (by kernel_rfl) (by simp) ?_
          refine AllReadyH.cons rfl (fun K hK => ?_) AllReadyH.nil
          have hB4 : Hid (Below wr.drew.heap.size wr.drew (w2.alloc (.cells #[.string (strT (endP xa (path.take k))), .slice a5 (kidsOf (endP xa (path.take k))).length c5] 33))) := hB2.out.alloc hB2.out.size _
          have bX4 : Hid (Box (w2.alloc (.cells #[.string (strT (endP xa (path.take k))), .slice a5 (kidsOf (endP xa (path.take k))).length c5] 33)) (w2.heap.size) [.string (strT (endP xa (path.take k))), .slice a5 (kidsOf (endP xa (path.take k))).length c5] 33) := Box.new w2 _ _
          go_simp
          refine hK.out _ _ ⟨cell_on hB4.out q0, cell_on hB4.out q1⟩ (fun hHeld => ?_)
          clear hK K
          refine take_lit (i := 10) (d := 14) (v := ?_) rfl rfl (by kernel_rfl) (by kernel_rfl) (by kernel_rfl) (fun _ _ _ h => h) (Or.inl ⟨by rfl, ?_⟩) (by assumption) ?_
          rotate_left
          · (intro w hSw; (try dsimp only at hSw); first | (go_simp; done) | (go_simp; with_reducible rfl))
          simp only [List.set_cons_zero, List.set_cons_succ]
          refine wpAnyH_done (by kernel_rfl) ?_ _
          have hBz : Hid (Below wr.heap.size wr _) := undrew hB4.out
          have m0 := bX4.out.cell 0 rfl
          have hGz : Hid (USt A (.string (strT xa)) (.slice aa (kidsOf xa).length ca) xa _) := hGr.out.below hBz.out
          clear q0 q1
          rcases Nat.lt_trichotomy k qq with hkq | hkq | hkq
          · have hk1 : ¬ (qq : Int) < (k : Int) := by omega
            have hk2 : ¬ (k : Int) = (qq : Int) := by omega
            have hk3 : ((k : Int) == (qq : Int)) = false := by simpa using hk2
            by_cases heq : strT (endP xa (path.take k)) = tag
            · have he2 : ((strT (endP xa (path.take k))).toList == tag.toList) = true := by rw [heq]; simp
              have he3 : (strT (endP xa (path.take k))).toList = tag.toList := by rw [heq]
              clear heq
              go_wp2_with fail
              go_roundw
              case rel => exact ⟨k + 1, by omega, by go_num, hGz, hPr.out.below intAt_stays hBz.out, hRr.out.below intAt_stays hBz.out, hBr.out.trans (hBz.out.mono hBr.out.size)⟩
              case measure => simp [intOf]; omega
            · have hne : ¬ strT (endP xa (path.take k)) = tag := heq
              clear heq
              have hne1 : (strT (endP xa (path.take k))).toList ≠ tag.toList := fun e => hne (ba_inj e)
              have hne2 : ((strT (endP xa (path.take k))).toList == tag.toList) = false := by simpa using hne1
              clear hne
              go_wp2_with fail
              go_roundw
              case rel => exact ⟨k + 1, by omega, by go_num, hGz, hPr.out.below intAt_stays hBz.out, hRr.out.below intAt_stays hBz.out, hBr.out.trans (hBz.out.mono hBr.out.size)⟩
              case measure => simp [intOf]; omega
          · subst hkq
            have heq : strT (endP xa (path.take k)) = tag := hyes.out
            have he2 : ((strT (endP xa (path.take k))).toList == tag.toList) = true := by rw [heq]; simp
            have he3 : (strT (endP xa (path.take k))).toList = tag.toList := by rw [heq]
            clear heq
            go_wp2_with fail
            go_roundw
            case rel => exact ⟨k + 1, by omega, by go_num, hGz, hPr.out.below intAt_stays hBz.out, hRr.out.below intAt_stays hBz.out, hBr.out.trans (hBz.out.mono hBr.out.size)⟩
            case measure => simp [intOf]; omega
          · have hk1 : (qq : Int) < (k : Int) := by omega
            have hk2 : ¬ (k : Int) = (qq : Int) := by omega
            have hk3 : ((k : Int) == (qq : Int)) = false := by simpa using hk2
            have hne : ¬ strT (endP xa (path.take k)) = tag := hno.out k hkq (by omega)
            have hne1 : (strT (endP xa (path.take k))).toList ≠ tag.toList := fun e => hne (ba_inj e)
            have hne2 : ((strT (endP xa (path.take k))).toList == tag.toList) = false := by simpa using hne1
            clear hne
            go_wp2_with fail
            go_roundw
            case rel => exact ⟨k + 1, by omega, by go_num, hGz, hPr.out.below intAt_stays hBz.out, hRr.out.below intAt_stays hBz.out, hBr.out.trans (hBz.out.mono hBr.out.size)⟩
            case measure => simp [intOf]; omega
        · go_simp
          have hbX : Hid (Below wr.drew.heap.size wr.drew (wr.drew.alloc (.cells #[.string ⟨#[]⟩, .slice none 0 0] 33))) := (Below.refl _ _).alloc (Nat.le_refl _) _
          have bX : Hid (Box (wr.drew.alloc (.cells #[.string ⟨#[]⟩, .slice none 0 0] 33)) wr.heap.size [.string ⟨#[]⟩, .slice none 0 0] 33) := Box.new wr.drew _ _
          refine hK.out _ _ ⟨cell_on hbX.out q0, cell_on hbX.out q1⟩ (fun hHeld => ?_)
          clear hK K
          refine wpAnyH_ready (rs := [4]) (by kernel_rfl) (by simp) ?_
          refine AllReadyH.cons rfl (fun K hK => ?_) AllReadyH.nil
          go_simp
          refine (implAt_any (n := 4) (by exact (hGd.out.1.below hbX.out)) (by exact (hPd.out.below intAt_stays hbX.out)) (by rw [List.length_take]; have := hpl.out; omega)).mono ?_
          rintro e w2 ⟨⟨cs, fs, rfl, hO, _, _⟩, hb2⟩
          rw [hok.out, atD_yes rfl (okP_take hoP.out k)] at hO
          obtain ⟨k1, rfl, hks, _⟩ := hO.opened
          obtain ⟨a5, c5, rfl⟩ := hks.form
          rw [hok.out, atD_yes rfl (okP_take hoP.out k)]
          have hB2 : Hid (Below wr.drew.heap.size wr.drew w2) := hbX.out.trans (hb2.mono hbX.out.size)
          have bX2 : Hid (Box w2 wr.heap.size [.string ⟨#[]⟩, .slice none 0 0] 33) := bX.out.below hb2 bX.out.lt
          clear hks hO
          refine hK.out _ _ ⟨cell_on hB2.out q0, cell_on hB2.out q1⟩ (fun hHeld => ?_)
          clear hK K
          refine take_lit (i := 5) (d := 61) (v := ?_) rfl rfl (by kernel_rfl) (by kernel_rfl) (by kernel_rfl) (fun _ _ _ h => h) (Or.inl ⟨by rfl, ?_⟩) (by assumption) ?_
          rotate_left
          · (intro w hSw; (try dsimp only at hSw); first | (go_simp; done) | (go_simp; with_reducible rfl))
          simp only [List.set_cons_zero, List.set_cons_succ]
          refine take_lit (i := 6) (d := 67) (v := ?_) rfl rfl (by kernel_rfl) (by kernel_rfl) (by kernel_rfl) (fun _ _ _ h => h) (Or.inl ⟨by rfl, ?_⟩) (by assumption) ?_
          rotate_left
          · (intro w hSw; (try dsimp only at hSw); first | (go_simp; done) | (go_simp; with_reducible rfl))
          simp only [List.set_cons_zero, List.set_cons_succ]
          refine take_lit (i := 7) (d := 68) (v := ?_) rfl rfl (by kernel_rfl) (by kernel_rfl) (by kernel_rfl) (fun _ _ _ h => h) (Or.inl ⟨by rfl, ?_⟩) (by assumption) ?_
          rotate_left
          · (intro w hSw; (try dsimp only at hSw); first | (go_simp; done) | (go_simp; with_reducible rfl))
          simp only [List.set_cons_zero, List.set_cons_succ]
          refine wpAnyH_ready (rs := [9]) (by kernel_rfl) (by simp) ?_
          refine AllReadyH.cons rfl (fun K hK => ?_) AllReadyH.nil
          have f0 := bX2.out.unfrozen
          have g0 := bX2.out.cell 0 rfl
          have g1 := bX2.out.cell 1 rfl
          have hB4 : Hid (Below wr.drew.heap.size wr.drew (putCells w2 (wr.heap.size) 0 [.string (strT (endP xa (path.take k))), .slice a5 (kidsOf (endP xa (path.take k))).length c5])) := putCells_below [.string (strT (endP xa (path.take k))), .slice a5 (kidsOf (endP xa (path.take k))).length c5] _ _ _ (wr.heap.size) 0 (Nat.le_refl _) hB2.out
          have bX4 : Hid (Box (putCells w2 (wr.heap.size) 0 [.string (strT (endP xa (path.take k))), .slice a5 (kidsOf (endP xa (path.take k))).length c5]) (wr.heap.size) [.string (strT (endP xa (path.take k))), .slice a5 (kidsOf (endP xa (path.take k))).length c5] 33) := box_put bX2.out
          go_simp
          refine hK.out _ _ ⟨cell_on hB4.out q0, cell_on hB4.out q1⟩ (fun hHeld => ?_)
          clear hK K
          refine take_lit (i := 10) (d := 14) (v := ?_) rfl rfl (by kernel_rfl) (by kernel_rfl) (by kernel_rfl) (fun _ _ _ h => h) (Or.inl ⟨by rfl, ?_⟩) (by assumption) ?_
          rotate_left
          · (intro w hSw; (try dsimp only at hSw); first | (go_simp; done) | (go_simp; with_reducible rfl))
          simp only [List.set_cons_zero, List.set_cons_succ]
          refine wpAnyH_done (by kernel_rfl) ?_ _
          have hBz : Hid (Below wr.heap.size wr _) := undrew hB4.out
          have m0 := bX4.out.cell 0 rfl
          have hGz : Hid (USt A (.string (strT xa)) (.slice aa (kidsOf xa).length ca) xa _) := hGr.out.below hBz.out
          clear q0 q1
          rcases Nat.lt_trichotomy k qq with hkq | hkq | hkq
          · have hk1 : ¬ (qq : Int) < (k : Int) := by omega
            have hk2 : ¬ (k : Int) = (qq : Int) := by omega
            have hk3 : ((k : Int) == (qq : Int)) = false := by simpa using hk2
            by_cases heq : strT (endP xa (path.take k)) = tag
            · have he2 : ((strT (endP xa (path.take k))).toList == tag.toList) = true := by rw [heq]; simp
              have he3 : (strT (endP xa (path.take k))).toList = tag.toList := by rw [heq]
              clear heq
              go_wp2_with fail
              go_roundw
              case rel => exact ⟨k + 1, by omega, by go_num, hGz, hPr.out.below intAt_stays hBz.out, hRr.out.below intAt_stays hBz.out, hBr.out.trans (hBz.out.mono hBr.out.size)⟩
              case measure => simp [intOf]; omega
            · have hne : ¬ strT (endP xa (path.take k)) = tag := heq
              clear heq
              have hne1 : (strT (endP xa (path.take k))).toList ≠ tag.toList := fun e => hne (ba_inj e)
              have hne2 : ((strT (endP xa (path.take k))).toList == tag.toList) = false := by simpa using hne1
              clear hne
              go_wp2_with fail
              go_roundw
              case rel => exact ⟨k + 1, by omega, by go_num, hGz, hPr.out.below intAt_stays hBz.out, hRr.out.below intAt_stays hBz.out, hBr.out.trans (hBz.out.mono hBr.out.size)⟩
              case measure => simp [intOf]; omega
          · subst hkq
            have heq : strT (endP xa (path.take k)) = tag := hyes.out
            have he2 : ((strT (endP xa (path.take k))).toList == tag.toList) = true := by rw [heq]; simp
            have he3 : (strT (endP xa (path.take k))).toList = tag.toList := by rw [heq]
            clear heq
            go_wp2_with fail
            go_roundw
            case rel => exact ⟨k + 1, by omega, by go_num, hGz, hPr.out.below intAt_stays hBz.out, hRr.out.below intAt_stays hBz.out, hBr.out.trans (hBz.out.mono hBr.out.size)⟩
            case measure => simp [intOf]; omega
          · have hk1 : (qq : Int) < (k : Int) := by omega
            have hk2 : ¬ (k : Int) = (qq : Int) := by omega
            have hk3 : ((k : Int) == (qq : Int)) = false := by simpa using hk2
            have hne : ¬ strT (endP xa (path.take k)) = tag := hno.out k hkq (by omega)
            have hne1 : (strT (endP xa (path.take k))).toList ≠ tag.toList := fun e => hne (ba_inj e)
            have hne2 : ((strT (endP xa (path.take k))).toList == tag.toList) = false := by simpa using hne1
            clear hne
            go_wp2_with fail
            go_roundw
            case rel => exact ⟨k + 1, by omega, by go_num, hGz, hPr.out.below intAt_stays hBz.out, hRr.out.below intAt_stays hBz.out, hBr.out.trans (hBz.out.mono hBr.out.size)⟩
            case measure => simp [intOf]; omega
      · have hlt' : ¬ (k : Int) ≤ (path.length : Int) := by omega
        have hcut := cutI (a := ap) (n := path.length) (cap := cp) (j := qq) (by have := hcp.out; omega)
        have hq1 : (qq : Int) ≤ (path.length : Int) := by omega
        go_wp2_with fail
        refine (samePath_yes hRr.out (SeqAt.take hPr.out qq hqq)).mono ?_
        rintro e w9 ⟨rfl, m9, hw9⟩
        go_wp2_with fail
        go_ret
        exact ⟨by first | rfl | simp, belowN_drew hBr.out m9⟩
end Go.Proofs.Ytddhacalnfkopaa.fnClosest
