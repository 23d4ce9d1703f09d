/- FnPaths, walked. -/
import Derived.Test.YtgmgbjeejlkdmaaDrawAt
import Derived.Test.YtgmgbjeejlkdmaaDrawPaths
import Derived.Test.YtgmgbjeejlkdmaaSameNot
import Derived.Test.YtgmgbjeejlkdmaaTakeLit
import Derived.Test.YtgmgbjeejlkdmaaPathsTop
import Derived.Test.YtgmgbjeejlkdmaaAtTops
import Derived.Test.YtgmgbjeejlkdmaaSizeOfI
import Derived.Test.YtgmgbjeejlkdmaaTextWalks
import Derived.Test.YtgmgbjeejlkdmaaSubRight
import Derived.Deep.RegionHeld3
import Derived.Deep.DeepCutAuto
import Derived.ProofKit
namespace Go.Proofs.Ytgmgbjeejlkdmaa.fnPaths
open Go.RowKit Go.Deep
def USt (A : Nat) (ta ka : Value) (xa : TD) (wr : World) : Prop := TreeAt wr 0 4 ta ka xa ∧ Box wr A [ta, ka] 26
theorem USt.below {A : Nat} {ta ka : Value} {xa : TD} {wr w' : World} (h : USt A ta ka xa wr) (hb : Below wr.heap.size wr w') : USt A ta ka xa w' := ⟨h.1.below hb, h.2.below hb h.2.lt⟩
theorem USt.cells {A : Nat} {ta ka : Value} {xa : TD} {wr : World} (h : USt A ta ka xa wr) : wr.cell? ⟨A, 0, none⟩ = some ta ∧ wr.cell? ⟨A, 1, none⟩ = some ka := ⟨h.2.cell 0 rfl, h.2.cell 1 rfl⟩
theorem ints_pick {w : World} {lo n cap : Nat} {a : Option Addr} {xs : List (List Int)} (h : SeqAt 1 IntsAt w lo (.slice a n cap) xs) {i : Nat} (hi : i < xs.length) : ∃ b o k, a = some ⟨b, o, none⟩ ∧ b < w.heap.size ∧ w.cell? ⟨b, o + i, none⟩ = some k ∧ SeqAt 1 IntAt w lo k xs[i] := by
  obtain ⟨a', cap', e, hm, hx⟩ := h
  injection e with e1 e2 e3
  subst e1 e2 e3
  obtain ⟨b', o', e, h1, h2, hc⟩ := hx (by omega)
  obtain ⟨cs, _, lie, k, rfl, hk⟩ := hc i hi
  have := lie 0 (by simp)
  simp only [List.getElem?_cons_zero, Nat.add_zero, Nat.mul_one] at this
  exact ⟨b', o', k, e, h2, this, hk⟩
theorem samePath_b {w : World} {lo lo2 : Nat} {k k2 : Value} {xs : List Int} (hk : SeqAt 1 IntAt w lo k xs) (hk2 : SeqAt 1 IntAt w lo2 k2 xs) :
    Calls Try.prog 17 #[k, k2] w fun e w' => e = .returned (.bool true) ∧ Below w.heap.size w w' := (samePath_yes hk hk2).mono fun e w' ⟨h1, m, h2⟩ => ⟨h1, by rw [h2]; exact belowN_drew (Below.refl _ _) m⟩
theorem samePaths_b {w : World} {lo lo2 : Nat} {k k2 : Value} {xs : List (List Int)} (hk : SeqAt 1 IntsAt w lo k xs) (hk2 : SeqAt 1 IntsAt w lo2 k2 xs) :
    Calls Try.prog 12 #[k, k2] w fun e w' => e = .returned (.bool true) ∧ Below w.heap.size w w' := (samePaths_yes hk hk2).mono fun e w' ⟨h1, m, h2⟩ => ⟨h1, by rw [h2]; exact belowN_drew (Below.refl _ _) m⟩
theorem samePath_c {w : World} {lo lo2 : Nat} {k k2 : Value} {xs ys : List Int} (hk : SeqAt 1 IntAt w lo k xs) (hk2 : SeqAt 1 IntAt w lo2 k2 ys) (hne : xs ≠ ys) :
    Calls Try.prog 17 #[k, k2] w fun e w' => e = .returned (.bool false) ∧ Below w.heap.size w w' := (samePath_no hk hk2 hne).mono fun e w' ⟨h1, m, h2⟩ => ⟨h1, by rw [h2]; exact belowN_drew (Below.refl _ _) m⟩
theorem big_any {a : Option Addr} {n cap : Nat} (w : World) : Calls Try.prog 6 #[.slice a n cap] w fun e w' => e = .returned (.bool (decide ((1048576 : Int) < (n : Int)))) ∧ w' = w := by
  go_enter Try.func6, Try.ntmps6
  go_wp2
  go_ret
  exact ⟨rfl, rfl⟩
theorem two_b (b : Bool) : b = false ∨ b = true := by cases b <;> simp
theorem atAns_tree {w w' : World} {r : TD × Bool} {e : Ending} (h : AtAns w w' 4 r e) : ∃ (s : ByteArray) (a : Option Addr) (m c : Nat), e = .returned (.tuple #[.agg #[.string s, .slice a m c], .bool r.2]) ∧ TreeAt w' 0 4 (.string s) (.slice a m c) r.1 := by
  obtain ⟨cs, fs, rfl, hO, _, _⟩ := h
  obtain ⟨kT, rfl, hks, _⟩ := hO.opened
  obtain ⟨aT, cT, rfl⟩ := hks.form
  exact ⟨_, _, _, _, rfl, TreeL.at 4 _ _ _ (TreeO_at (lo := 0) 4 _ _ _ _ hO (fun _ _ => Nat.zero_le _))⟩
theorem cell_on3 {B : Nat} {w w' : World} {x : Addr} {v : Value} (h : Below B w w') (hl : x.block < B) (hc : w.cell? x = some v) : w'.cell? x = some v := by rw [h.cell hl]; exact hc
theorem atAns_tree2 {w w' : World} {r : TD × Bool} {e : Ending} (h : AtAns w w' 4 r e) : ∃ (s : ByteArray) (a : Option Addr) (m c : Nat), e = .returned (.tuple #[.agg #[.string s, .slice a m c], .bool r.2]) ∧ TreeAt w' w.heap.size 4 (.string s) (.slice a m c) r.1 := by
  obtain ⟨cs, fs, rfl, hO, _, hlo⟩ := h
  obtain ⟨kT, rfl, hks, _⟩ := hO.opened
  obtain ⟨aT, cT, rfl⟩ := hks.form
  exact ⟨_, _, _, _, rfl, TreeL.at 4 _ _ _ (TreeO_at (lo := w.heap.size) 4 _ _ _ _ hO hlo)⟩
set_option maxRecDepth 100000 in
set_option maxHeartbeats 8000000 in
theorem walk {a : Option Addr} {n cap : Nat} (w : World) (hlen : n ≤ maxLen) (hcode : n ≤ 1048576 → CodeAt w a n) :
    Calls Try.prog 3 #[.slice a n cap] w fun e w' => e = .returned (.bool true) ∧ Below w.heap.size w w' := by
  unfold maxLen at hlen
  by_cases hbig : (1048576 : Int) < (n : Int)
  · clear hcode
    go_enter Try.func3, Try.ntmps3
    go_wp2_with (go_at_call 6; refine (big_any _).mono ?_; rintro e w' ⟨rfl, rfl⟩; rw [decide_eq_true hbig])
    go_ret
    exact ⟨rfl, Below.refl _ _⟩
  have hc' : Hid (CodeAt w a n) := hcode (by omega)
  have hbe : Hid (decide ((1048576 : Int) < (n : Int)) = false) := decide_eq_false hbig
  clear hcode hbig hlen
  go_enter Try.func3, Try.ntmps3
  go_wp2_with (go_at_call 6; refine (big_any _).mono ?_; rintro e w' ⟨rfl, e9⟩; have e10 := e9.symm; clear e9; subst e10; rw [hbe.out])
  refine (drawPathsOf_any hc'.out).mono ?_
  rintro e w2 ⟨⟨ta, ka, xa, rfl, hta⟩, hb2⟩
  obtain ⟨rfl, _⟩ := hta.tag
  obtain ⟨_, aa, ca, rfl⟩ := hta.form
  have hta' : Hid (TreeAt w2 0 4 (.string (strT xa)) (.slice aa (kidsOf xa).length ca) xa) := TreeAt.keep (Nat.le_refl _) (Nat.zero_le _) (fun _ _ _ => rfl) 4 _ _ _ hta
  have hB2 : Hid (Below w.heap.size w w2) := hb2
  clear hta hb2
  have h24 : Hid (Below w2.heap.size w2 (w2.alloc (.cells #[.string (strT xa), .slice aa (kidsOf xa).length ca] 26))) := (Below.refl _ _).alloc (Nat.le_refl _) _
  have hG4 : Hid (USt w2.heap.size (.string (strT xa)) (.slice aa (kidsOf xa).length ca) xa (w2.alloc (.cells #[.string (strT xa), .slice aa (kidsOf xa).length ca] 26))) := ⟨hta'.out.below h24.out, Box.new w2 _ _⟩
  clear hta'
  go_upto_region 4 with fail
  generalize (w2.alloc (.cells #[.string (strT xa), .slice aa (kidsOf xa).length ca] 26)) = w4 at h24 hG4 ⊢
  generalize hAe : w2.heap.size = A at hG4 ⊢
  have hAe' : Hid (w2.heap.size = A) := hAe
  clear hAe
  obtain ⟨a0, a1⟩ := USt.cells hG4.out
  go_wp2_with fail
  refine (implPathsOf_any (n := 4) (by exact hG4.out.1)).mono ?_
  rintro e w5 ⟨⟨vf, fs, rfl, hs, _, _⟩, hb5⟩
  obtain ⟨FL, hFL0⟩ : ∃ FL, pathsOfD (okB (szD 4 xa 30)) 4 xa = FL := ⟨_, rfl⟩
  rw [hFL0] at hs
  have hFLe : Hid (pathsOfD (okB (szD 4 xa 30)) 4 xa = FL) := hFL0
  clear hFL0
  have hF5 : Hid (SeqAt 1 IntsAt w5 0 vf FL) := hs.at IntsOwn_at (fun _ _ => Nat.zero_le _)
  have hG5 : Hid (USt A (.string (strT xa)) (.slice aa (kidsOf xa).length ca) xa w5) := hG4.out.below hb5
  have h25 : Hid (Below w2.heap.size w2 w5) := h24.out.trans (hb5.mono h24.out.size)
  obtain ⟨af, cf, rfl⟩ := hF5.out.form
  clear hs hb5 hG4 h24 a0 a1
  have hB5 : Hid (Below w.heap.size w w5) := hB2.out.trans (h25.out.mono hB2.out.size)
  go_wp2_with fail
  refine (drawAt_any (CodeAt.below hc'.out hB5.out)).mono ?_
  rintro e w6 ⟨⟨tb, kb, vp, xb, pb, rfl, htb, hpb, hpl⟩, hb6⟩
  obtain ⟨rfl, _⟩ := htb.tag
  obtain ⟨_, ab, cb, rfl⟩ := htb.form
  obtain ⟨ap, cp, rfl⟩ := hpb.form
  have htb' : Hid (TreeAt w6 0 4 (.string (strT xb)) (.slice ab (kidsOf xb).length cb) xb) := htb
  have hpb' : Hid (SeqAt 1 IntAt w6 0 (.slice ap pb.length cp) pb) := hpb
  have hpl' : Hid (pb.length ≤ 1048576) := by show _ ≤ _; omega
  have hF6 : Hid (SeqAt 1 IntsAt w6 0 (.slice af FL.length cf) FL) := hF5.out.below IntsAt_stays hb6
  have hG6 : Hid (USt A (.string (strT xa)) (.slice aa (kidsOf xa).length ca) xa w6) := hG5.out.below hb6
  have h26 : Hid (Below w2.heap.size w2 w6) := h25.out.trans (hb6.mono h25.out.size)
  clear htb hpb hpl hb6 hF5 hG5 h25 hB5 hc'
  have hN7 : Hid (Below w6.heap.size w6 (w6.alloc (.cells #[.string (strT xb), .slice ab (kidsOf xb).length cb] 26))) := (Below.refl _ _).alloc (Nat.le_refl _) _
  have hX7 : Hid (Box (w6.alloc (.cells #[.string (strT xb), .slice ab (kidsOf xb).length cb] 26)) w6.heap.size [.string (strT xb), .slice ab (kidsOf xb).length cb] 26) := Box.new w6 _ _
  go_upto_region 6 with fail
  generalize (w6.alloc (.cells #[.string (strT xb), .slice ab (kidsOf xb).length cb] 26)) = w7 at hN7 hX7 ⊢
  have htb7 := htb'.out.below hN7.out
  have hU7 : Hid (USt w6.heap.size (.string (strT xb)) (.slice ab (kidsOf xb).length cb) xb w7) := ⟨htb7, hX7.out⟩
  have hp7 : Hid (SeqAt 1 IntAt w7 0 (.slice ap pb.length cp) pb) := hpb'.out.below intAt_stays hN7.out
  have hF7 : Hid (SeqAt 1 IntsAt w7 0 (.slice af FL.length cf) FL) := hF6.out.below IntsAt_stays hN7.out
  have hG7 : Hid (USt A (.string (strT xa)) (.slice aa (kidsOf xa).length ca) xa w7) := hG6.out.below hN7.out
  have h27 : Hid (Below w2.heap.size w2 w7) := h26.out.trans (hN7.out.mono h26.out.size)
  clear htb7 htb' hpb' hF6 hG6 h26 hN7 hX7
  generalize w6.heap.size = B at hU7 ⊢
  obtain ⟨DX, hDX0⟩ : ∃ DX, (atD (okB (szD 4 xb 30)) xb pb) = DX := ⟨_, rfl⟩
  have hDX : Hid (atD (okB (szD 4 xb 30)) xb pb = DX) := hDX0
  clear hDX0
  obtain ⟨DT, th⟩ := DX
  obtain ⟨a0, a1⟩ := USt.cells hU7.out
  go_wp2_with fail
  refine (implAt_any (n := 4) (by exact hU7.out.1) (by exact hp7.out) hpl'.out).mono ?_
  rintro e w8 ⟨hA8, hb8⟩
  rw [hDX.out] at hA8
  obtain ⟨sx, ax, mx, cx, rfl, hx8⟩ := atAns_tree hA8
  have hx8' : Hid (TreeAt w8 0 4 (.string sx) (.slice ax mx cx) DT) := hx8
  have hbx : Hid (Below w8.heap.size w8 (w8.alloc (.cells #[.string sx, .slice ax mx cx] 26))) := (Below.refl _ _).alloc (Nat.le_refl _) _
  have hb79 : Hid (Below w7.heap.size w7 (w8.alloc (.cells #[.string sx, .slice ax mx cx] 26))) := hb8.trans (hbx.out.mono hb8.size)
  have hXX : Hid (USt w8.heap.size (.string sx) (.slice ax mx cx) DT (w8.alloc (.cells #[.string sx, .slice ax mx cx] 26))) := ⟨hx8.below hbx.out, Box.new w8 _ _⟩
  clear hA8 hx8 hx8' hb8 hbx a0 a1
  go_upto_region 7 with fail
  generalize (w8.alloc (.cells #[.string sx, .slice ax mx cx] 26)) = w9 at hb79 hXX ⊢
  generalize w8.heap.size = X at hXX ⊢
  have hU9 : Hid (USt B (.string (strT xb)) (.slice ab (kidsOf xb).length cb) xb w9) := hU7.out.below hb79.out
  have hp9 : Hid (SeqAt 1 IntAt w9 0 (.slice ap pb.length cp) pb) := hp7.out.below intAt_stays hb79.out
  have hF9 : Hid (SeqAt 1 IntsAt w9 0 (.slice af FL.length cf) FL) := hF7.out.below IntsAt_stays hb79.out
  have hG9 : Hid (USt A (.string (strT xa)) (.slice aa (kidsOf xa).length ca) xa w9) := hG7.out.below hb79.out
  have h29 : Hid (Below w2.heap.size w2 w9) := h27.out.trans (hb79.out.mono h27.out.size)
  clear hU7 hp7 hF7 hG7 h27 hb79
  obtain ⟨a0, a1⟩ := USt.cells hU9.out
  go_wp2_with fail
  refine (specAt_any (n := 4) (by exact hU9.out.1) (by exact hp9.out)).mono ?_
  rintro e w10 ⟨hA10, hb10⟩
  rw [hDX.out] at hA10
  obtain ⟨sy, ay, my, cy, rfl, hy10⟩ := atAns_tree hA10
  have hby : Hid (Below w10.heap.size w10 (w10.alloc (.cells #[.string sy, .slice ay my cy] 26))) := (Below.refl _ _).alloc (Nat.le_refl _) _
  have hb9b : Hid (Below w9.heap.size w9 (w10.alloc (.cells #[.string sy, .slice ay my cy] 26))) := hb10.trans (hby.out.mono hb10.size)
  have hYY : Hid (USt w10.heap.size (.string sy) (.slice ay my cy) DT (w10.alloc (.cells #[.string sy, .slice ay my cy] 26))) := ⟨hy10.below hby.out, Box.new w10 _ _⟩
  clear hA10 hy10 hb10 hby a0 a1
  go_upto_region 8 with fail
  generalize (w10.alloc (.cells #[.string sy, .slice ay my cy] 26)) = w11 at hb9b hYY ⊢
  generalize w10.heap.size = Y at hYY ⊢
  have hXb : Hid (USt X (.string sx) (.slice ax mx cx) DT w11) := hXX.out.below hb9b.out
  have hFb : Hid (SeqAt 1 IntsAt w11 0 (.slice af FL.length cf) FL) := hF9.out.below IntsAt_stays hb9b.out
  have hGb : Hid (USt A (.string (strT xa)) (.slice aa (kidsOf xa).length ca) xa w11) := hG9.out.below hb9b.out
  have h2b : Hid (Below w2.heap.size w2 w11) := h29.out.trans (hb9b.out.mono h29.out.size)
  clear hU9 hp9 hF9 hG9 h29 hb9b hXX hDX
  obtain ⟨a0, a1⟩ := USt.cells hGb.out
  obtain ⟨x0, x1⟩ := USt.cells hXb.out
  obtain ⟨y0, y1⟩ := USt.cells hYY.out
  have hth1 : (th != th) = false := by simp
  have hth2 : (th == th) = true := by simp
  rcases two_b (okB (szD 4 xa 30)) with hok | hok
  · have hok' : Hid (okB (szD 4 xa 30) = false) := hok
    clear hok
    go_wp2_with fail
    have kz0 : Hid (Below w11.heap.size w11 w11.drew) := Below.drew (Below.refl _ _)
    refine wp_region_held_drew (S := fun w' => w'.cell? ⟨A, 0, none⟩ = some (.string (strT xa)) ∧ w'.cell? ⟨A, 1, none⟩ = some (.slice aa (kidsOf xa).length ca) ∧ w'.cell? ⟨X, 0, none⟩ = some (.string sx) ∧ w'.cell? ⟨X, 1, none⟩ = some (.slice ax mx cx) ∧ w'.cell? ⟨Y, 0, none⟩ = some (.string sy) ∧ w'.cell? ⟨Y, 1, none⟩ = some (.slice ay my cy)) (by kernel_rfl) ⟨a0, a1, x0, x1, y0, y1⟩ (fun hHeld => ?_)
    refine take_lit (i := 0) (d := 38) (v := ?_) rfl rfl (by kernel_rfl) (by kernel_rfl) (by kernel_rfl) (fun _ _ _ h => h) (Or.inl ⟨by rfl, ?_⟩) (by assumption) ?_
    rotate_left
    · (intro w hSw; (try dsimp only at hSw); first | (go_simp; done) | (go_simp; with_reducible rfl))
    simp only [List.set_cons_zero, List.set_cons_succ]
    refine take_lit (i := 1) (d := 39) (v := ?_) rfl rfl (by kernel_rfl) (by kernel_rfl) (by kernel_rfl) (fun _ _ _ h => h) (Or.inl ⟨by rfl, ?_⟩) (by assumption) ?_
    rotate_left
    · (intro w hSw; (try dsimp only at hSw); first | (go_simp; done) | (go_simp; with_reducible rfl))
    simp only [List.set_cons_zero, List.set_cons_succ]
    refine wpAnyH_ready (rs := [2]) (by kernel_rfl) (by simp) ?_
    refine AllReadyH.cons rfl (fun K hK => ?_) AllReadyH.nil
    go_simp
    refine (specPathsOf_any (n := 4) (by exact (hGb.out.below kz0.out).1)).mono ?_
    rintro e z1 ⟨⟨vg, fg, rfl, hs, _, _⟩, hb1⟩
    have kz1 : Hid (Below w11.heap.size w11 z1) := kz0.out.trans (hb1.mono kz0.out.size)
    rw [hFLe.out] at hs
    have hSz : Hid (SeqAt 1 IntsAt z1 0 vg FL) := hs.at IntsOwn_at (fun _ _ => Nat.zero_le _)
    obtain ⟨ag, cg, rfl⟩ := hSz.out.form
    clear hs
    refine hK.out _ _ ⟨cell_on hb1 hHeld.1, cell_on hb1 hHeld.2.1, cell_on hb1 hHeld.2.2.1, cell_on hb1 hHeld.2.2.2.1, cell_on hb1 hHeld.2.2.2.2.1, cell_on hb1 hHeld.2.2.2.2.2⟩ (fun hHeld => ?_)
    clear hK K
    refine wpAnyH_ready (rs := [3]) (by kernel_rfl) (by simp) ?_
    refine AllReadyH.cons rfl (fun K hK => ?_) AllReadyH.nil
    go_simp
    refine (samePaths_b (by exact hFb.out.below IntsAt_stays kz1.out) hSz.out).mono ?_
    rintro e z2 ⟨rfl, hb1⟩
    have kz2 : Hid (Below w11.heap.size w11 z2) := kz1.out.trans (hb1.mono kz1.out.size)
    refine hK.out _ _ ⟨cell_on hb1 hHeld.1, cell_on hb1 hHeld.2.1, cell_on hb1 hHeld.2.2.1, cell_on hb1 hHeld.2.2.2.1, cell_on hb1 hHeld.2.2.2.2.1, cell_on hb1 hHeld.2.2.2.2.2⟩ (fun hHeld => ?_)
    clear hK K
    refine take_lit (i := 4) (d := 42) (v := ?_) rfl rfl (by kernel_rfl) (by kernel_rfl) (by kernel_rfl) (fun _ _ _ h => h) (Or.inl ⟨by rfl, ?_⟩) (by assumption) ?_
    rotate_left
    · (intro w hSw; (try dsimp only at hSw); first | (go_simp; done) | (go_simp; with_reducible rfl))
    simp only [List.set_cons_zero, List.set_cons_succ]
    refine take_lit (i := 5) (d := 43) (v := ?_) rfl rfl (by kernel_rfl) (by kernel_rfl) (by kernel_rfl) (fun _ _ _ h => h) (Or.inl ⟨by rfl, ?_⟩) (by assumption) ?_
    rotate_left
    · (intro w hSw; (try dsimp only at hSw); first | (go_simp; done) | (go_simp; with_reducible rfl))
    simp only [List.set_cons_zero, List.set_cons_succ]
    refine take_lit (i := 6) (d := 44) (v := ?_) rfl rfl (by kernel_rfl) (by kernel_rfl) (by kernel_rfl) (fun _ _ _ h => h) (Or.inl ⟨by rfl, ?_⟩) (by assumption) ?_
    rotate_left
    · (intro w hSw; (try dsimp only at hSw); first | (go_simp; done) | (go_simp; with_reducible rfl))
    simp only [List.set_cons_zero, List.set_cons_succ]
    refine take_lit (i := 7) (d := 45) (v := ?_) rfl rfl (by kernel_rfl) (by kernel_rfl) (by kernel_rfl) (fun _ _ _ h => h) (Or.inl ⟨by rfl, ?_⟩) (by assumption) ?_
    rotate_left
    · (intro w hSw; (try dsimp only at hSw); first | (go_simp; done) | (go_simp; with_reducible rfl))
    simp only [List.set_cons_zero, List.set_cons_succ]
    refine take_lit (i := 8) (d := 46) (v := .bool false) rfl rfl (by kernel_rfl) (by kernel_rfl) (by kernel_rfl) (fun _ _ _ h => h) (Or.inl ⟨by rfl, ?_⟩) (by assumption) ?_
    · (intro w hSw; (try dsimp only at hSw); go_simp; first | done | rfl | simp [hth1] | simp)
    simp only [List.set_cons_zero, List.set_cons_succ]
    refine take_lit (i := 9) (d := 47) (v := ?_) rfl rfl (by kernel_rfl) (by kernel_rfl) (by kernel_rfl) (fun _ _ _ h => h) (Or.inl ⟨by rfl, ?_⟩) (by assumption) ?_
    rotate_left
    · (intro w hSw; (try dsimp only at hSw); first | (go_simp; done) | (go_simp; with_reducible rfl))
    simp only [List.set_cons_zero, List.set_cons_succ]
    refine take_lit (i := 10) (d := 48) (v := ?_) rfl rfl (by kernel_rfl) (by kernel_rfl) (by kernel_rfl) (fun _ _ _ h => h) (Or.inl ⟨by rfl, ?_⟩) (by assumption) ?_
    rotate_left
    · (intro w hSw; (try dsimp only at hSw); first | (go_simp; done) | (go_simp; with_reducible rfl))
    simp only [List.set_cons_zero, List.set_cons_succ]
    refine take_lit (i := 11) (d := 49) (v := ?_) rfl rfl (by kernel_rfl) (by kernel_rfl) (by kernel_rfl) (fun _ _ _ h => h) (Or.inl ⟨by rfl, ?_⟩) (by assumption) ?_
    rotate_left
    · (intro w hSw; (try dsimp only at hSw); first | (go_simp; done) | (go_simp; with_reducible rfl))
    simp only [List.set_cons_zero, List.set_cons_succ]
    refine take_lit (i := 13) (d := 51) (v := ?_) rfl rfl (by kernel_rfl) (by kernel_rfl) (by kernel_rfl) (fun _ _ _ h => h) (Or.inl ⟨by rfl, ?_⟩) (by assumption) ?_
    rotate_left
    · (intro w hSw; (try dsimp only at hSw); first | (go_simp; done) | (go_simp; with_reducible rfl))
    simp only [List.set_cons_zero, List.set_cons_succ]
    refine wpAnyH_ready (rs := [12]) (by kernel_rfl) (by simp) ?_
    refine AllReadyH.cons rfl (fun K hK => ?_) AllReadyH.nil
    go_simp
    refine (implTreeText_any (n := 4) (by exact (hXb.out.below kz2.out).1)).mono ?_
    rintro e z3 ⟨rfl, hb1⟩
    have kz3 : Hid (Below w11.heap.size w11 z3) := kz2.out.trans (hb1.mono kz2.out.size)
    refine hK.out _ _ ⟨cell_on hb1 hHeld.1, cell_on hb1 hHeld.2.1, cell_on hb1 hHeld.2.2.1, cell_on hb1 hHeld.2.2.2.1, cell_on hb1 hHeld.2.2.2.2.1, cell_on hb1 hHeld.2.2.2.2.2⟩ (fun hHeld => ?_)
    clear hK K
    refine wpAnyH_ready (rs := [14]) (by kernel_rfl) (by simp) ?_
    refine AllReadyH.cons rfl (fun K hK => ?_) AllReadyH.nil
    go_simp
    refine (implTreeText_any (n := 4) (by exact (hYY.out.below kz3.out).1)).mono ?_
    rintro e z4 ⟨rfl, hb1⟩
    have kz4 : Hid (Below w11.heap.size w11 z4) := kz3.out.trans (hb1.mono kz3.out.size)
    refine hK.out _ _ ⟨cell_on hb1 hHeld.1, cell_on hb1 hHeld.2.1, cell_on hb1 hHeld.2.2.1, cell_on hb1 hHeld.2.2.2.1, cell_on hb1 hHeld.2.2.2.2.1, cell_on hb1 hHeld.2.2.2.2.2⟩ (fun hHeld => ?_)
    clear hK K
    refine take_lit (i := 15) (d := 53) (v := .bool false) rfl rfl (by kernel_rfl) (by kernel_rfl) (by kernel_rfl) (fun _ _ _ h => h) (Or.inl ⟨by rfl, ?_⟩) (by assumption) ?_
    · (intro w hSw; (try dsimp only at hSw); go_simp; first | done | rfl | simp [hth1] | simp)
    simp only [List.set_cons_zero, List.set_cons_succ]
    refine take_lit (i := 16) (d := 54) (v := ?_) rfl rfl (by kernel_rfl) (by kernel_rfl) (by kernel_rfl) (fun _ _ _ h => h) (Or.inl ⟨by rfl, ?_⟩) (by assumption) ?_
    rotate_left
    · (intro w hSw; (try dsimp only at hSw); first | (go_simp; done) | (go_simp; with_reducible rfl))
    simp only [List.set_cons_zero, List.set_cons_succ]
    refine take_lit (i := 17) (d := 55) (v := ?_) rfl rfl (by kernel_rfl) (by kernel_rfl) (by kernel_rfl) (fun _ _ _ h => h) (Or.inl ⟨by rfl, ?_⟩) (by assumption) ?_
    rotate_left
    · (intro w hSw; (try dsimp only at hSw); first | (go_simp; done) | (go_simp; with_reducible rfl))
    simp only [List.set_cons_zero, List.set_cons_succ]
    refine take_lit (i := 18) (d := 56) (v := ?_) rfl rfl (by kernel_rfl) (by kernel_rfl) (by kernel_rfl) (fun _ _ _ h => h) (Or.inl ⟨by rfl, ?_⟩) (by assumption) ?_
    rotate_left
    · (intro w hSw; (try dsimp only at hSw); first | (go_simp; done) | (go_simp; with_reducible rfl))
    simp only [List.set_cons_zero, List.set_cons_succ]
    refine wpAnyH_ready (rs := [19]) (by kernel_rfl) (by simp) ?_
    refine AllReadyH.cons rfl (fun K hK => ?_) AllReadyH.nil
    go_simp
    refine (specTreeOk_any (n := 4) (by exact (hGb.out.below kz4.out).1)).mono ?_
    rintro e z5 ⟨rfl, hb1⟩
    have kz5 : Hid (Below w11.heap.size w11 z5) := kz4.out.trans (hb1.mono kz4.out.size)
    rw [hok'.out]
    refine hK.out _ _ ⟨cell_on hb1 hHeld.1, cell_on hb1 hHeld.2.1, cell_on hb1 hHeld.2.2.1, cell_on hb1 hHeld.2.2.2.1, cell_on hb1 hHeld.2.2.2.2.1, cell_on hb1 hHeld.2.2.2.2.2⟩ (fun hHeld => ?_)
    clear hK K
    refine take_lit (i := 20) (d := 58) (v := ?_) rfl rfl (by kernel_rfl) (by kernel_rfl) (by kernel_rfl) (fun _ _ _ h => h) (Or.inl ⟨by rfl, ?_⟩) (by assumption) ?_
    rotate_left
    · (intro w hSw; (try dsimp only at hSw); first | (go_simp; done) | (go_simp; with_reducible rfl))
    simp only [List.set_cons_zero, List.set_cons_succ]
    refine take_lit (i := 21) (d := 59) (v := ?_) rfl rfl (by kernel_rfl) (by kernel_rfl) (by kernel_rfl) (fun _ _ _ h => h) (Or.inl ⟨by rfl, ?_⟩) (by assumption) ?_
    rotate_left
    · (intro w hSw; (try dsimp only at hSw); first | (go_simp; done) | (go_simp; with_reducible rfl))
    simp only [List.set_cons_zero, List.set_cons_succ]
    refine wpAnyH_done (by kernel_rfl) ?_ _
    have hGz : Hid (USt A (.string (strT xa)) (.slice aa (kidsOf xa).length ca) xa z5) := hGb.out.below kz5.out
    clear a0 a1 x0 x1 y0 y1
    obtain ⟨a0, a1⟩ := USt.cells hGz.out
    go_wp2_with fail
    refine (specPathsOf_any (n := 4) (by exact hGz.out.1)).mono ?_
    rintro e z6 ⟨⟨vh, fh, rfl, hs, _, _⟩, hb6⟩
    rw [hFLe.out] at hs
    have hSx : Hid (SeqAt 1 IntsAt z6 0 vh FL) := hs.at IntsOwn_at (fun _ _ => Nat.zero_le _)
    have kz6 : Hid (Below w11.heap.size w11 z6) := kz5.out.trans (hb6.mono kz5.out.size)
    obtain ⟨ah, ch, rfl⟩ := hSx.out.form
    clear hs hb6 a0 a1
    go_wp2_with fail
    refine (samePaths_b (by exact hFb.out.below IntsAt_stays kz6.out) hSx.out).mono ?_
    rintro e z7 ⟨rfl, hb7⟩
    have kz7 : Hid (Below w11.heap.size w11 z7) := kz6.out.trans (hb7.mono kz6.out.size)
    clear hb7
    go_wp2_with fail
    go_ret
    exact ⟨by first | rfl | simp, hB2.out.trans ((h2b.out.trans (kz7.out.mono h2b.out.size)).mono hB2.out.size)⟩
  have hok' : Hid (okB (szD 4 xa 30) = true) := hok
  clear hok
  go_wp2_with fail
  have kz0 : Hid (Below w11.heap.size w11 w11.drew) := Below.drew (Below.refl _ _)
  refine wp_region_held_drew (S := fun w' => w'.cell? ⟨A, 0, none⟩ = some (.string (strT xa)) ∧ w'.cell? ⟨A, 1, none⟩ = some (.slice aa (kidsOf xa).length ca) ∧ w'.cell? ⟨X, 0, none⟩ = some (.string sx) ∧ w'.cell? ⟨X, 1, none⟩ = some (.slice ax mx cx) ∧ w'.cell? ⟨Y, 0, none⟩ = some (.string sy) ∧ w'.cell? ⟨Y, 1, none⟩ = some (.slice ay my cy)) (by kernel_rfl) ⟨a0, a1, x0, x1, y0, y1⟩ (fun hHeld => ?_)
  refine take_lit (i := 0) (d := 38) (v := ?_) rfl rfl (by kernel_rfl) (by kernel_rfl) (by kernel_rfl) (fun _ _ _ h => h) (Or.inl ⟨by rfl, ?_⟩) (by assumption) ?_
  rotate_left
  · (intro w hSw; (try dsimp only at hSw); first | (go_simp; done) | (go_simp; with_reducible rfl))
  simp only [List.set_cons_zero, List.set_cons_succ]
  refine take_lit (i := 1) (d := 39) (v := ?_) rfl rfl (by kernel_rfl) (by kernel_rfl) (by kernel_rfl) (fun _ _ _ h => h) (Or.inl ⟨by rfl, ?_⟩) (by assumption) ?_
  rotate_left
  · (intro w hSw; (try dsimp only at hSw); first | (go_simp; done) | (go_simp; with_reducible rfl))
  simp only [List.set_cons_zero, List.set_cons_succ]
  refine wpAnyH_ready (rs := [2]) (by kernel_rfl) (by simp) ?_
  refine AllReadyH.cons rfl (fun K hK => ?_) AllReadyH.nil
  go_simp
  refine (specPathsOf_any (n := 4) (by exact (hGb.out.below kz0.out).1)).mono ?_
  rintro e z1 ⟨⟨vg, fg, rfl, hs, _, _⟩, hb1⟩
  have kz1 : Hid (Below w11.heap.size w11 z1) := kz0.out.trans (hb1.mono kz0.out.size)
  rw [hFLe.out] at hs
  have hSz : Hid (SeqAt 1 IntsAt z1 0 vg FL) := hs.at IntsOwn_at (fun _ _ => Nat.zero_le _)
  obtain ⟨ag, cg, rfl⟩ := hSz.out.form
  clear hs
  refine hK.out _ _ ⟨cell_on hb1 hHeld.1, cell_on hb1 hHeld.2.1, cell_on hb1 hHeld.2.2.1, cell_on hb1 hHeld.2.2.2.1, cell_on hb1 hHeld.2.2.2.2.1, cell_on hb1 hHeld.2.2.2.2.2⟩ (fun hHeld => ?_)
  clear hK K
  refine wpAnyH_ready (rs := [3]) (by kernel_rfl) (by simp) ?_
  refine AllReadyH.cons rfl (fun K hK => ?_) AllReadyH.nil
  go_simp
  refine (samePaths_b (by exact hFb.out.below IntsAt_stays kz1.out) hSz.out).mono ?_
  rintro e z2 ⟨rfl, hb1⟩
  have kz2 : Hid (Below w11.heap.size w11 z2) := kz1.out.trans (hb1.mono kz1.out.size)
  refine hK.out _ _ ⟨cell_on hb1 hHeld.1, cell_on hb1 hHeld.2.1, cell_on hb1 hHeld.2.2.1, cell_on hb1 hHeld.2.2.2.1, cell_on hb1 hHeld.2.2.2.2.1, cell_on hb1 hHeld.2.2.2.2.2⟩ (fun hHeld => ?_)
  clear hK K
  refine take_lit (i := 4) (d := 42) (v := ?_) rfl rfl (by kernel_rfl) (by kernel_rfl) (by kernel_rfl) (fun _ _ _ h => h) (Or.inl ⟨by rfl, ?_⟩) (by assumption) ?_
  rotate_left
  · (intro w hSw; (try dsimp only at hSw); first | (go_simp; done) | (go_simp; with_reducible rfl))
  simp only [List.set_cons_zero, List.set_cons_succ]
  refine take_lit (i := 5) (d := 43) (v := ?_) rfl rfl (by kernel_rfl) (by kernel_rfl) (by kernel_rfl) (fun _ _ _ h => h) (Or.inl ⟨by rfl, ?_⟩) (by assumption) ?_
  rotate_left
  · (intro w hSw; (try dsimp only at hSw); first | (go_simp; done) | (go_simp; with_reducible rfl))
  simp only [List.set_cons_zero, List.set_cons_succ]
  refine take_lit (i := 6) (d := 44) (v := ?_) rfl rfl (by kernel_rfl) (by kernel_rfl) (by kernel_rfl) (fun _ _ _ h => h) (Or.inl ⟨by rfl, ?_⟩) (by assumption) ?_
  rotate_left
  · (intro w hSw; (try dsimp only at hSw); first | (go_simp; done) | (go_simp; with_reducible rfl))
  simp only [List.set_cons_zero, List.set_cons_succ]
  refine take_lit (i := 7) (d := 45) (v := ?_) rfl rfl (by kernel_rfl) (by kernel_rfl) (by kernel_rfl) (fun _ _ _ h => h) (Or.inl ⟨by rfl, ?_⟩) (by assumption) ?_
  rotate_left
  · (intro w hSw; (try dsimp only at hSw); first | (go_simp; done) | (go_simp; with_reducible rfl))
  simp only [List.set_cons_zero, List.set_cons_succ]
  refine take_lit (i := 8) (d := 46) (v := .bool false) rfl rfl (by kernel_rfl) (by kernel_rfl) (by kernel_rfl) (fun _ _ _ h => h) (Or.inl ⟨by rfl, ?_⟩) (by assumption) ?_
  · (intro w hSw; (try dsimp only at hSw); go_simp; first | done | rfl | simp [hth1] | simp)
  simp only [List.set_cons_zero, List.set_cons_succ]
  refine take_lit (i := 9) (d := 47) (v := ?_) rfl rfl (by kernel_rfl) (by kernel_rfl) (by kernel_rfl) (fun _ _ _ h => h) (Or.inl ⟨by rfl, ?_⟩) (by assumption) ?_
  rotate_left
  · (intro w hSw; (try dsimp only at hSw); first | (go_simp; done) | (go_simp; with_reducible rfl))
  simp only [List.set_cons_zero, List.set_cons_succ]
  refine take_lit (i := 10) (d := 48) (v := ?_) rfl rfl (by kernel_rfl) (by kernel_rfl) (by kernel_rfl) (fun _ _ _ h => h) (Or.inl ⟨by rfl, ?_⟩) (by assumption) ?_
  rotate_left
  · (intro w hSw; (try dsimp only at hSw); first | (go_simp; done) | (go_simp; with_reducible rfl))
  simp only [List.set_cons_zero, List.set_cons_succ]
  refine take_lit (i := 11) (d := 49) (v := ?_) rfl rfl (by kernel_rfl) (by kernel_rfl) (by kernel_rfl) (fun _ _ _ h => h) (Or.inl ⟨by rfl, ?_⟩) (by assumption) ?_
  rotate_left
  · (intro w hSw; (try dsimp only at hSw); first | (go_simp; done) | (go_simp; with_reducible rfl))
  simp only [List.set_cons_zero, List.set_cons_succ]
  refine take_lit (i := 13) (d := 51) (v := ?_) rfl rfl (by kernel_rfl) (by kernel_rfl) (by kernel_rfl) (fun _ _ _ h => h) (Or.inl ⟨by rfl, ?_⟩) (by assumption) ?_
  rotate_left
  · (intro w hSw; (try dsimp only at hSw); first | (go_simp; done) | (go_simp; with_reducible rfl))
  simp only [List.set_cons_zero, List.set_cons_succ]
  refine wpAnyH_ready (rs := [12]) (by kernel_rfl) (by simp) ?_
  refine AllReadyH.cons rfl (fun K hK => ?_) AllReadyH.nil
  go_simp
  refine (implTreeText_any (n := 4) (by exact (hXb.out.below kz2.out).1)).mono ?_
  rintro e z3 ⟨rfl, hb1⟩
  have kz3 : Hid (Below w11.heap.size w11 z3) := kz2.out.trans (hb1.mono kz2.out.size)
  refine hK.out _ _ ⟨cell_on hb1 hHeld.1, cell_on hb1 hHeld.2.1, cell_on hb1 hHeld.2.2.1, cell_on hb1 hHeld.2.2.2.1, cell_on hb1 hHeld.2.2.2.2.1, cell_on hb1 hHeld.2.2.2.2.2⟩ (fun hHeld => ?_)
  clear hK K
  refine wpAnyH_ready (rs := [14]) (by kernel_rfl) (by simp) ?_
  refine AllReadyH.cons rfl (fun K hK => ?_) AllReadyH.nil
  go_simp
  refine (implTreeText_any (n := 4) (by exact (hYY.out.below kz3.out).1)).mono ?_
  rintro e z4 ⟨rfl, hb1⟩
  have kz4 : Hid (Below w11.heap.size w11 z4) := kz3.out.trans (hb1.mono kz3.out.size)
  refine hK.out _ _ ⟨cell_on hb1 hHeld.1, cell_on hb1 hHeld.2.1, cell_on hb1 hHeld.2.2.1, cell_on hb1 hHeld.2.2.2.1, cell_on hb1 hHeld.2.2.2.2.1, cell_on hb1 hHeld.2.2.2.2.2⟩ (fun hHeld => ?_)
  clear hK K
  refine take_lit (i := 15) (d := 53) (v := .bool false) rfl rfl (by kernel_rfl) (by kernel_rfl) (by kernel_rfl) (fun _ _ _ h => h) (Or.inl ⟨by rfl, ?_⟩) (by assumption) ?_
  · (intro w hSw; (try dsimp only at hSw); go_simp; first | done | rfl | simp [hth1] | simp)
  simp only [List.set_cons_zero, List.set_cons_succ]
  refine take_lit (i := 16) (d := 54) (v := ?_) rfl rfl (by kernel_rfl) (by kernel_rfl) (by kernel_rfl) (fun _ _ _ h => h) (Or.inl ⟨by rfl, ?_⟩) (by assumption) ?_
  rotate_left
  · (intro w hSw; (try dsimp only at hSw); first | (go_simp; done) | (go_simp; with_reducible rfl))
  simp only [List.set_cons_zero, List.set_cons_succ]
  refine take_lit (i := 17) (d := 55) (v := ?_) rfl rfl (by kernel_rfl) (by kernel_rfl) (by kernel_rfl) (fun _ _ _ h => h) (Or.inl ⟨by rfl, ?_⟩) (by assumption) ?_
  rotate_left
  · (intro w hSw; (try dsimp only at hSw); first | (go_simp; done) | (go_simp; with_reducible rfl))
  simp only [List.set_cons_zero, List.set_cons_succ]
  refine take_lit (i := 18) (d := 56) (v := ?_) rfl rfl (by kernel_rfl) (by kernel_rfl) (by kernel_rfl) (fun _ _ _ h => h) (Or.inl ⟨by rfl, ?_⟩) (by assumption) ?_
  rotate_left
  · (intro w hSw; (try dsimp only at hSw); first | (go_simp; done) | (go_simp; with_reducible rfl))
  simp only [List.set_cons_zero, List.set_cons_succ]
  refine wpAnyH_ready (rs := [19]) (by kernel_rfl) (by simp) ?_
  refine AllReadyH.cons rfl (fun K hK => ?_) AllReadyH.nil
  go_simp
  refine (specTreeOk_any (n := 4) (by exact (hGb.out.below kz4.out).1)).mono ?_
  rintro e z5 ⟨rfl, hb1⟩
  have kz5 : Hid (Below w11.heap.size w11 z5) := kz4.out.trans (hb1.mono kz4.out.size)
  rw [hok'.out]
  refine hK.out _ _ ⟨cell_on hb1 hHeld.1, cell_on hb1 hHeld.2.1, cell_on hb1 hHeld.2.2.1, cell_on hb1 hHeld.2.2.2.1, cell_on hb1 hHeld.2.2.2.2.1, cell_on hb1 hHeld.2.2.2.2.2⟩ (fun hHeld => ?_)
  clear hK K
  refine take_lit (i := 20) (d := 58) (v := ?_) rfl rfl (by kernel_rfl) (by kernel_rfl) (by kernel_rfl) (fun _ _ _ h => h) (Or.inl ⟨by rfl, ?_⟩) (by assumption) ?_
  rotate_left
  · (intro w hSw; (try dsimp only at hSw); first | (go_simp; done) | (go_simp; with_reducible rfl))
  simp only [List.set_cons_zero, List.set_cons_succ]
  refine take_lit (i := 21) (d := 59) (v := ?_) rfl rfl (by kernel_rfl) (by kernel_rfl) (by kernel_rfl) (fun _ _ _ h => h) (Or.inl ⟨by rfl, ?_⟩) (by assumption) ?_
  rotate_left
  · (intro w hSw; (try dsimp only at hSw); first | (go_simp; done) | (go_simp; with_reducible rfl))
  simp only [List.set_cons_zero, List.set_cons_succ]
  refine wpAnyH_done (by kernel_rfl) ?_ _
  have hPL : Hid (FL = (pathsD 4 xa [])) := by show _ = _; rw [← hFLe.out]; exact pathsOfD_yes hok'.out
  have hFz : Hid (SeqAt 1 IntsAt z5 0 (.slice af FL.length cf) FL) := hFb.out.below IntsAt_stays kz5.out
  have hGz : Hid (USt A (.string (strT xa)) (.slice aa (kidsOf xa).length ca) xa z5) := hGb.out.below kz5.out
  have h2z : Hid (Below w2.heap.size w2 z5) := h2b.out.trans (kz5.out.mono h2b.out.size)
  clear a0 a1 x0 x1 y0 y1 hXb hYY hGb hFb h2b kz0 kz1 kz2 kz3 kz4 kz5 hSz hFLe
  have hL30 : FL.length ≤ 30 := by rw [hPL.out, pathsD_len]; exact (right_of_ok2 hok'.out).cntT 4
  have hokP : Hid (∀ P ∈ FL, okP xa P = true ∧ P.length ≤ 1048576) := fun P hP => by rw [hPL.out] at hP; exact ⟨by obtain ⟨r, e1, e2⟩ := pathsD_ok 4 xa [] _ hP; rw [List.nil_append] at e1; rw [e1]; exact e2, by have := pathsD_deep 4 xa [] _ hP; simp at this; omega⟩
  have hnx : Hid (∀ i, (h : i + 1 < FL.length) → FL[i + 1].length ≤ FL[i].length + 1) := by rw [hPL.out]; exact fun i h => pathsD_next h
  have hot : Hid (∀ i j, (hj : j < i) → (h : i < FL.length) → FL[j]'(Nat.lt_trans hj h) ≠ FL[i]) := by rw [hPL.out]; exact fun i j hj h => pathsD_other hj h
  have hsz : Hid ((FL.length : Int) = resI (szD 4 xa 30)) := by rw [hPL.out]; exact paths_size hok'.out
  have hf0 : Hid ((h : 0 < FL.length) → FL[0] = []) := by rw [hPL.out]; exact fun h => pathsD_first h
  clear hPL
  go_wp2_with fail
  go_loopw [11] (fun i wr => ∃ (j : Nat), j ≤ FL.length ∧ i = .int .i64 j ∧ Hid (USt A (.string (strT xa)) (.slice aa (kidsOf xa).length ca) xa wr) ∧ Hid (SeqAt 1 IntsAt wr 0 (.slice af FL.length cf) FL) ∧ Hid (Below w2.heap.size w2 wr)) (fun i _ => FL.length - (intOf i).toNat)
  case atStart => exact ⟨0, Nat.zero_le _, rfl, hGz, hFz, h2z⟩
  case round =>
    obtain ⟨j, hj, rfl, hGr, hPr, h2r⟩ := hrel
    obtain ⟨a0, a1⟩ := USt.cells hGr.out
    by_cases hlt : j < FL.length
    · obtain ⟨bp, op, kP, rfl, hbp, cP, hP⟩ := ints_pick hPr.out hlt
      obtain ⟨hoP, hPl⟩ := hokP.out FL[j] (List.getElem_mem hlt)
      obtain ⟨DK, hDK0⟩ : ∃ DK, endP xa FL[j] = DK := ⟨_, rfl⟩
      have hAtE : Hid (atD (okB (szD 4 xa 30)) xa FL[j] = (DK, true)) := by show _ = _; rw [atD_yes hok'.out hoP, hDK0]
      have hKok : Hid (okB (szD 4 DK 30) = true) := by show _ = _; rw [← hDK0]; exact ok_ends _ hok'.out hoP
      have hPl' : Hid (FL[j].length ≤ 1048576) := hPl
      have hPj : Hid (SeqAt 1 IntAt wr 0 kP FL[j]) := hP
      have hFj : Hid (FL[j]? = some FL[j]) := List.getElem?_eq_getElem hlt
      generalize FL[j] = P at hPl' hPj hAtE hFj
      clear hP hoP hPl hDK0
      obtain ⟨a9, c9, rfl⟩ := hPj.out.form
      have hlt' : (j : Int) < (FL.length : Int) := by omega
      have hj0 : (0 : Int) ≤ (j : Int) := by omega
      have hbp' : Hid (bp < wr.heap.size) := hbp
      have k0 : Hid (Below wr.heap.size wr wr.drew) := Below.drew (Below.refl _ _)
      clear hbp
      go_wp2_with fail
      refine wp_region_held_drew (S := fun w' => w'.cell? ⟨A, 0, none⟩ = some (.string (strT xa)) ∧ w'.cell? ⟨A, 1, none⟩ = some (.slice aa (kidsOf xa).length ca) ∧ w'.cell? ⟨bp, op + j, none⟩ = some (.slice a9 P.length c9)) (by kernel_rfl) ⟨a0, a1, cP⟩ (fun hHeld => ?_)
      refine take_lit (i := 0) (d := 76) (v := ?_) rfl rfl (by kernel_rfl) (by kernel_rfl) (by kernel_rfl) (fun _ _ _ h => h) (Or.inl ⟨by rfl, ?_⟩) (by assumption) ?_
      rotate_left
      · (intro w hSw; (try dsimp only at hSw); first | (go_simp; done) | (go_simp; with_reducible rfl))
      simp only [List.set_cons_zero, List.set_cons_succ]
      refine take_lit (i := 1) (d := 77) (v := ?_) rfl rfl (by kernel_rfl) (by kernel_rfl) (by kernel_rfl) (fun _ _ _ h => h) (Or.inl ⟨by rfl, ?_⟩) (by assumption) ?_
      rotate_left
      · (intro w hSw; (try dsimp only at hSw); first | (go_simp; done) | (go_simp; with_reducible rfl))
      simp only [List.set_cons_zero, List.set_cons_succ]
      refine take_lit (i := 2) (d := 78) (v := ?_) rfl rfl (by kernel_rfl) (by kernel_rfl) (by kernel_rfl) (fun _ _ _ h => h) (Or.inl ⟨by rfl, ?_⟩) (by assumption) ?_
      rotate_left
      · (intro w hSw; (try dsimp only at hSw); first | (go_simp; done) | (go_simp; with_reducible rfl))
      simp only [List.set_cons_zero, List.set_cons_succ]
      refine take_lit (i := 3) (d := 79) (v := ?_) rfl rfl (by kernel_rfl) (by kernel_rfl) (by kernel_rfl) (fun _ _ _ h => h) (Or.inl ⟨by rfl, ?_⟩) (by assumption) ?_
      rotate_left
      · (intro w hSw; (try dsimp only at hSw); first | (go_simp; done) | (go_simp; with_reducible rfl))
      simp only [List.set_cons_zero, List.set_cons_succ]
      refine take_lit (i := 4) (d := 80) (v := ?_) rfl rfl (by kernel_rfl) (by kernel_rfl) (by kernel_rfl) (fun _ _ _ h => h) (Or.inl ⟨by rfl, ?_⟩) (by assumption) ?_
      rotate_left
      · (intro w hSw; (try dsimp only at hSw); first | (go_simp; done) | (go_simp; with_reducible rfl))
      simp only [List.set_cons_zero, List.set_cons_succ]
      refine wpAnyH_ready (rs := [5, 9]) (by kernel_rfl) (by simp) ?_
      refine (AllReadyH.cons rfl (fun K hK => ?_) (AllReadyH.cons rfl (fun K hK => ?_) AllReadyH.nil))
      · go_simp
        refine (implAt_any (n := 4) (by exact (hGr.out.below k0.out).1) (by exact hPj.out.below intAt_stays k0.out) hPl'.out).mono ?_
        rintro e wC ⟨hAC, hb1⟩
        rw [hAtE.out] at hAC
        obtain ⟨sk, ak, mk, ck, rfl, hxC⟩ := atAns_tree2 hAC
        have kC : Hid (Below wr.heap.size wr wC) := k0.out.trans (hb1.mono k0.out.size)
        have hxC' : Hid (TreeAt wC wr.heap.size 4 (.string sk) (.slice ak mk ck) DK) := by show TreeAt _ _ _ _ _ _; simpa using hxC
        clear hAC hxC
        refine hK.out _ _ ⟨cell_on hb1 hHeld.1, cell_on hb1 hHeld.2.1, cell_on hb1 hHeld.2.2⟩ (fun hHeld => ?_)
        clear hK K
        refine take_lit (i := 6) (d := 75) (v := ?_) rfl rfl (by kernel_rfl) (by kernel_rfl) (by kernel_rfl) (fun _ _ _ h => h) (Or.inl ⟨by rfl, ?_⟩) (by assumption) ?_
        rotate_left
        · (intro w hSw; (try dsimp only at hSw); first | (go_simp; done) | (go_simp; with_reducible rfl))
        simp only [List.set_cons_zero, List.set_cons_succ]
        refine take_lit (i := 7) (d := 82) (v := ?_) rfl rfl (by kernel_rfl) (by kernel_rfl) (by kernel_rfl) (fun _ _ _ h => h) (Or.inl ⟨by rfl, ?_⟩) (by assumption) ?_
        rotate_left
        · (intro w hSw; (try dsimp only at hSw); first | (go_simp; done) | (go_simp; with_reducible rfl))
        simp only [List.set_cons_zero, List.set_cons_succ]
        refine take_lit (i := 8) (d := 83) (v := ?_) rfl rfl (by kernel_rfl) (by kernel_rfl) (by kernel_rfl) (fun _ _ _ h => h) (Or.inl ⟨by rfl, ?_⟩) (by assumption) ?_
        rotate_left
        · (intro w hSw; (try dsimp only at hSw); first | (go_simp; done) | (go_simp; with_reducible rfl))
        simp only [List.set_cons_zero, List.set_cons_succ]
        refine wpAnyH_ready (rs := [9]) (by kernel_rfl) (by simp) ?_
        refine AllReadyH.cons rfl (fun K hK => ?_) AllReadyH.nil
        go_simp
        have kA : Hid (Below wr.heap.size wr (World.alloc wC (.cells #[.string ⟨#[]⟩, .slice none 0 0] 26))) := kC.out.alloc kC.out.size _
        have bxA : Hid (Box (World.alloc wC (.cells #[.string ⟨#[]⟩, .slice none 0 0] 26)) wC.heap.size [.string ⟨#[]⟩, .slice none 0 0] 26) := Box.new wC _ _
        refine hK.out _ _ ⟨cell_on ((Below.refl _ _).alloc (Nat.le_refl _) _) hHeld.1, cell_on ((Below.refl _ _).alloc (Nat.le_refl _) _) hHeld.2.1, cell_on ((Below.refl _ _).alloc (Nat.le_refl _) _) hHeld.2.2⟩ (fun hHeld => ?_)
        clear hK K
        refine wpAnyH_ready (rs := [10]) (by kernel_rfl) (by simp) ?_
        refine AllReadyH.cons rfl (fun K hK => ?_) AllReadyH.nil
        have r0 := bxA.out.cell 0 rfl
        have r1 := bxA.out.cell 1 rfl
        have fR := bxA.out.unfrozen
        have bx5 : Hid (Box (World.alloc wC (.cells #[.string sk, .slice ak mk ck] 26)) (wC.heap.size) [.string sk, .slice ak mk ck] 26) := Box.new wC _ _
        have k5 : Hid (Below wr.heap.size wr (World.alloc wC (.cells #[.string sk, .slice ak mk ck] 26))) := kC.out.alloc kC.out.size _
        have hx5 : Hid (TreeAt (World.alloc wC (.cells #[.string sk, .slice ak mk ck] 26)) 0 4 (.string sk) (.slice ak mk ck) DK) := TreeAt.keep (by simp) (Nat.zero_le _) (fun b q1 q2 => Below.heap_alloc wC _ b q2) 4 _ _ _ hxC'.out
        go_simp
        refine hK.out _ _ ⟨cell_on3 k5.out (by exact hGr.out.2.lt) a0, cell_on3 k5.out (by exact hGr.out.2.lt) a1, cell_on3 k5.out hbp'.out cP⟩ (fun hHeld => ?_)
        clear hK K
        refine take_lit (i := 11) (d := 13) (v := ?_) rfl rfl (by kernel_rfl) (by kernel_rfl) (by kernel_rfl) (fun _ _ _ h => h) (Or.inl ⟨by rfl, ?_⟩) (by assumption) ?_
        rotate_left
        · (intro w hSw; (try dsimp only at hSw); first | (go_simp; done) | (go_simp; with_reducible rfl))
        simp only [List.set_cons_zero, List.set_cons_succ]
        refine wpAnyH_done (by kernel_rfl) ?_ _
        have hQ : Hid (USt (wC.heap.size) (.string sk) (.slice ak mk ck) DK (World.alloc wC (.cells #[.string sk, .slice ak mk ck] 26))) := ⟨hx5.out, bx5.out⟩
        clear hx5 bx5 r0 r1 fR
        go_upto_region 14 with fail
        generalize (World.alloc wC (.cells #[.string sk, .slice ak mk ck] 26)) = w13 at hQ k5 ⊢
        obtain ⟨Z, hZ⟩ : ∃ Z, wC.heap.size = Z := ⟨_, rfl⟩
        rw [hZ] at hQ
        simp only [hZ]
        have hZ' : Hid (Z = Z) := rfl
        clear hZ hZ'
        obtain ⟨q0, q1⟩ := USt.cells hQ.out
        have cP5 := cell_on3 k5.out hbp'.out cP
        have kd : Hid (Below w13.heap.size w13 w13.drew) := Below.drew (Below.refl _ _)
        clear a0 a1
        rcases Nat.eq_zero_or_pos j with hjz | hjz
        · have hng : ¬ (0 : Int) < (j : Int) := by omega
          refine wp_region_held_drew (S := fun w' => w'.cell? ⟨Z, 0, none⟩ = some (.string sk) ∧ w'.cell? ⟨Z, 1, none⟩ = some (.slice ak mk ck) ∧ w'.cell? ⟨bp, op + j, none⟩ = some (.slice a9 P.length c9)) (by kernel_rfl) ⟨q0, q1, cP5⟩ (fun hHeld => ?_)
          refine take_lit (i := 0) (d := 84) (v := ?_) rfl rfl (by kernel_rfl) (by kernel_rfl) (by kernel_rfl) (fun _ _ _ h => h) (Or.inl ⟨by rfl, ?_⟩) (by assumption) ?_
          rotate_left
          · (intro w hSw; (try dsimp only at hSw); first | (go_simp; done) | (go_simp; with_reducible rfl))
          simp only [List.set_cons_zero, List.set_cons_succ]
          refine take_lit (i := 1) (d := 85) (v := ?_) rfl rfl (by kernel_rfl) (by kernel_rfl) (by kernel_rfl) (fun _ _ _ h => h) (Or.inl ⟨by rfl, ?_⟩) (by assumption) ?_
          rotate_left
          · (intro w hSw; (try dsimp only at hSw); first | (go_simp; done) | (go_simp; with_reducible rfl))
          simp only [List.set_cons_zero, List.set_cons_succ]
          refine take_lit (i := 2) (d := 86) (v := ?_) rfl rfl (by kernel_rfl) (by kernel_rfl) (by kernel_rfl) (fun _ _ _ h => h) (Or.inl ⟨by rfl, ?_⟩) (by assumption) ?_
          rotate_left
          · (intro w hSw; (try dsimp only at hSw); first | (go_simp; done) | (go_simp; with_reducible rfl))
          simp only [List.set_cons_zero, List.set_cons_succ]
          refine take_lit (i := 3) (d := 87) (v := ?_) rfl rfl (by kernel_rfl) (by kernel_rfl) (by kernel_rfl) (fun _ _ _ h => h) (Or.inl ⟨by rfl, ?_⟩) (by assumption) ?_
          rotate_left
          · (intro w hSw; (try dsimp only at hSw); first | (go_simp; done) | (go_simp; with_reducible rfl))
          simp only [List.set_cons_zero, List.set_cons_succ]
          refine wpAnyH_ready (rs := [4]) (by kernel_rfl) (by simp) ?_
          refine AllReadyH.cons rfl (fun K hK => ?_) AllReadyH.nil
          go_simp
          refine (implTreeOk_any (n := 4) (by exact (hQ.out.below kd.out).1)).mono ?_
          rintro e w14 ⟨rfl, hb1⟩
          rw [hKok.out]
          have k14 : Hid (Below wr.heap.size wr w14) := k5.out.trans ((kd.out.trans (hb1.mono kd.out.size)).mono k5.out.size)
          refine hK.out _ _ ⟨cell_on hb1 hHeld.1, cell_on hb1 hHeld.2.1, cell_on hb1 hHeld.2.2⟩ (fun hHeld => ?_)
          clear hK K
          refine take_lit (i := 5) (d := 89) (v := ?_) rfl rfl (by kernel_rfl) (by kernel_rfl) (by kernel_rfl) (fun _ _ _ h => h) (Or.inl ⟨by rfl, ?_⟩) (by assumption) ?_
          rotate_left
          · (intro w hSw; (try dsimp only at hSw); first | (go_simp; done) | (go_simp; with_reducible rfl))
          simp only [List.set_cons_zero, List.set_cons_succ]
          refine take_lit (i := 6) (d := 90) (v := ?_) rfl rfl (by kernel_rfl) (by kernel_rfl) (by kernel_rfl) (fun _ _ _ h => h) (Or.inl ⟨by rfl, ?_⟩) (by assumption) ?_
          rotate_left
          · (intro w hSw; (try dsimp only at hSw); first | (go_simp; done) | (go_simp; with_reducible rfl))
          simp only [List.set_cons_zero, List.set_cons_succ]
          refine take_lit (i := 7) (d := 91) (v := ?_) rfl rfl (by kernel_rfl) (by kernel_rfl) (by kernel_rfl) (fun _ _ _ h => h) (Or.inl ⟨by rfl, ?_⟩) (by assumption) ?_
          rotate_left
          · (intro w hSw; (try dsimp only at hSw); first | (go_simp; done) | (go_simp; with_reducible rfl))
          simp only [List.set_cons_zero, List.set_cons_succ]
          refine take_lit (i := 8) (d := 92) (v := ?_) rfl rfl (by kernel_rfl) (by kernel_rfl) (by kernel_rfl) (fun _ _ _ h => h) (Or.inl ⟨by rfl, ?_⟩) (by assumption) ?_
          rotate_left
          · (intro w hSw; (try dsimp only at hSw); first | (go_simp; done) | (go_simp; with_reducible rfl))
          simp only [List.set_cons_zero, List.set_cons_succ]
          refine take_lit (i := 9) (d := 93) (v := ?_) rfl rfl (by kernel_rfl) (by kernel_rfl) (by kernel_rfl) (fun _ _ _ h => h) (Or.inl ⟨by rfl, ?_⟩) (by assumption) ?_
          rotate_left
          · (intro w hSw; (try dsimp only at hSw); first | (go_simp; done) | (go_simp; with_reducible rfl))
          simp only [List.set_cons_zero, List.set_cons_succ]
          refine take_lit (i := 10) (d := 94) (v := ?_) rfl rfl (by kernel_rfl) (by kernel_rfl) (by kernel_rfl) (fun _ _ _ h => h) (Or.inl ⟨by rfl, ?_⟩) (by assumption) ?_
          rotate_left
          · (intro w hSw; (try dsimp only at hSw); first | (go_simp; done) | (go_simp; with_reducible rfl))
          simp only [List.set_cons_zero, List.set_cons_succ]
          refine take_lit (i := 11) (d := 95) (v := undef) rfl rfl (by kernel_rfl) (by kernel_rfl) (by kernel_rfl) (fun _ _ _ h => h) (Or.inr ⟨by rfl, rfl⟩) (by assumption) ?_
          simp only [List.set_cons_zero, List.set_cons_succ]
          refine take_lit (i := 12) (d := 96) (v := undef) rfl rfl (by kernel_rfl) (by kernel_rfl) (by kernel_rfl) (fun _ _ _ h => h) (Or.inr ⟨by rfl, rfl⟩) (by assumption) ?_
          simp only [List.set_cons_zero, List.set_cons_succ]
          refine take_lit (i := 13) (d := 97) (v := undef) rfl rfl (by kernel_rfl) (by kernel_rfl) (by kernel_rfl) (fun _ _ _ h => h) (Or.inr ⟨by rfl, rfl⟩) (by assumption) ?_
          simp only [List.set_cons_zero, List.set_cons_succ]
          refine take_lit (i := 14) (d := 98) (v := undef) rfl rfl (by kernel_rfl) (by kernel_rfl) (by kernel_rfl) (fun _ _ _ h => h) (Or.inr ⟨by rfl, rfl⟩) (by assumption) ?_
          simp only [List.set_cons_zero, List.set_cons_succ]
          refine take_lit (i := 15) (d := 99) (v := undef) rfl rfl (by kernel_rfl) (by kernel_rfl) (by kernel_rfl) (fun _ _ _ h => h) (Or.inr ⟨by rfl, rfl⟩) (by assumption) ?_
          simp only [List.set_cons_zero, List.set_cons_succ]
          refine take_lit (i := 16) (d := 100) (v := undef) rfl rfl (by kernel_rfl) (by kernel_rfl) (by kernel_rfl) (fun _ _ _ h => h) (Or.inr ⟨by rfl, rfl⟩) (by assumption) ?_
          simp only [List.set_cons_zero, List.set_cons_succ]
          refine take_lit (i := 17) (d := 101) (v := undef) rfl rfl (by kernel_rfl) (by kernel_rfl) (by kernel_rfl) (fun _ _ _ h => h) (Or.inr ⟨by rfl, rfl⟩) (by assumption) ?_
          simp only [List.set_cons_zero, List.set_cons_succ]
          refine take_lit (i := 18) (d := 102) (v := undef) rfl rfl (by kernel_rfl) (by kernel_rfl) (by kernel_rfl) (fun _ _ _ h => h) (Or.inr ⟨by rfl, rfl⟩) (by assumption) ?_
          simp only [List.set_cons_zero, List.set_cons_succ]
          refine take_lit (i := 19) (d := 103) (v := undef) rfl rfl (by kernel_rfl) (by kernel_rfl) (by kernel_rfl) (fun _ _ _ h => h) (Or.inr ⟨by rfl, rfl⟩) (by assumption) ?_
          simp only [List.set_cons_zero, List.set_cons_succ]
          refine take_lit (i := 20) (d := 104) (v := undef) rfl rfl (by kernel_rfl) (by kernel_rfl) (by kernel_rfl) (fun _ _ _ h => h) (Or.inr ⟨by rfl, rfl⟩) (by assumption) ?_
          simp only [List.set_cons_zero, List.set_cons_succ]
          refine take_lit (i := 21) (d := 105) (v := undef) rfl rfl (by kernel_rfl) (by kernel_rfl) (by kernel_rfl) (fun _ _ _ h => h) (Or.inr ⟨by rfl, rfl⟩) (by assumption) ?_
          simp only [List.set_cons_zero, List.set_cons_succ]
          refine take_lit (i := 22) (d := 106) (v := undef) rfl rfl (by kernel_rfl) (by kernel_rfl) (by kernel_rfl) (fun _ _ _ h => h) (Or.inr ⟨by rfl, rfl⟩) (by assumption) ?_
          simp only [List.set_cons_zero, List.set_cons_succ]
          refine take_lit (i := 23) (d := 107) (v := undef) rfl rfl (by kernel_rfl) (by kernel_rfl) (by kernel_rfl) (fun _ _ _ h => h) (Or.inr ⟨by rfl, rfl⟩) (by assumption) ?_
          simp only [List.set_cons_zero, List.set_cons_succ]
          refine take_lit (i := 24) (d := 108) (v := ?_) rfl rfl (by kernel_rfl) (by kernel_rfl) (by kernel_rfl) (fun _ _ _ h => h) (Or.inl ⟨by rfl, ?_⟩) (by assumption) ?_
          rotate_left
          · (intro w hSw; (try dsimp only at hSw); first | (go_simp; done) | (go_simp; with_reducible rfl))
          simp only [List.set_cons_zero, List.set_cons_succ]
          refine take_lit (i := 25) (d := 109) (v := ?_) rfl rfl (by kernel_rfl) (by kernel_rfl) (by kernel_rfl) (fun _ _ _ h => h) (Or.inl ⟨by rfl, ?_⟩) (by assumption) ?_
          rotate_left
          · (intro w hSw; (try dsimp only at hSw); first | (go_simp; done) | (go_simp; with_reducible rfl))
          simp only [List.set_cons_zero, List.set_cons_succ]
          refine wpAnyH_done (by kernel_rfl) ?_ _
          obtain ⟨wo, rfl⟩ : ∃ wo, wo = wr := ⟨wr, rfl⟩
          clear hHeld
          go_wp2_with fail
          go_loopw [14] (fun ii wr => ∃ (i : Nat), i ≤ j ∧ ii = .int .i64 i ∧ Hid (Below wo.heap.size wo wr)) (fun ii _ => j - (intOf ii).toNat)
          case atStart => exact ⟨0, Nat.zero_le _, rfl, k14⟩
          case round =>
            obtain ⟨i, hi, rfl, kq⟩ := hrel
            by_cases hij : i < j
            · exact absurd hij (by omega)
            · obtain rfl : i = j := by omega
              go_wp2_with fail
              go_roundw
              case rel => exact ⟨i + 1, by omega, by go_num, hGr.out.below kq.out, hPr.out.below IntsAt_stays kq.out, h2r.out.trans (kq.out.mono h2r.out.size)⟩
              case measure => simp [intOf]; omega
        · have hgt : (0 : Int) < (j : Int) := by omega
          obtain ⟨m, hm⟩ : ∃ m, j = m + 1 := ⟨j - 1, by omega⟩
          have hmL : m < FL.length := by omega
          obtain ⟨bq, oq, kQ, eq, _, cQ, hQm⟩ := ints_pick hPr.out hmL
          cases eq
          have hstep : P.length ≤ FL[m].length + 1 := by
            have h1 := hnx.out m (by omega)
            have h2 := hFj.out
            clear hGr hPr h2r k5 hQ
            subst hm
            rw [List.getElem?_eq_getElem hlt] at h2
            injection h2 with h2
            rw [h2] at h1
            exact h1
          obtain ⟨a7, c7, rfl⟩ := hQm.form
          have hQ7 : FL[m].length ≤ 1048576 := (hokP.out _ (List.getElem_mem hmL)).2
          clear hQm
          generalize FL[m] = Q at cQ hstep hQ7
          have cQ5 := cell_on3 k5.out hbp'.out cQ
          have hmL' : (m : Int) < (FL.length : Int) := by omega
          have hm0 : (0 : Int) ≤ (m : Int) := by omega
          have hmi : (j : Int) - 1 = (m : Int) := by omega
          clear hm
          refine wp_region_held_drew (S := fun w' => w'.cell? ⟨Z, 0, none⟩ = some (.string sk) ∧ w'.cell? ⟨Z, 1, none⟩ = some (.slice ak mk ck) ∧ w'.cell? ⟨bp, op + j, none⟩ = some (.slice a9 P.length c9) ∧ w'.cell? ⟨bp, op + m, none⟩ = some (.slice a7 Q.length c7)) (by kernel_rfl) ⟨q0, q1, cP5, cQ5⟩ (fun hHeld => ?_)
          refine take_lit (i := 0) (d := 84) (v := ?_) rfl rfl (by kernel_rfl) (by kernel_rfl) (by kernel_rfl) (fun _ _ _ h => h) (Or.inl ⟨by rfl, ?_⟩) (by assumption) ?_
          rotate_left
          · (intro w hSw; (try dsimp only at hSw); first | (go_simp; done) | (go_simp; with_reducible rfl))
          simp only [List.set_cons_zero, List.set_cons_succ]
          refine take_lit (i := 1) (d := 85) (v := ?_) rfl rfl (by kernel_rfl) (by kernel_rfl) (by kernel_rfl) (fun _ _ _ h => h) (Or.inl ⟨by rfl, ?_⟩) (by assumption) ?_
          rotate_left
          · (intro w hSw; (try dsimp only at hSw); first | (go_simp; done) | (go_simp; with_reducible rfl))
          simp only [List.set_cons_zero, List.set_cons_succ]
          refine take_lit (i := 2) (d := 86) (v := ?_) rfl rfl (by kernel_rfl) (by kernel_rfl) (by kernel_rfl) (fun _ _ _ h => h) (Or.inl ⟨by rfl, ?_⟩) (by assumption) ?_
          rotate_left
          · (intro w hSw; (try dsimp only at hSw); first | (go_simp; done) | (go_simp; with_reducible rfl))
          simp only [List.set_cons_zero, List.set_cons_succ]
          refine take_lit (i := 3) (d := 87) (v := ?_) rfl rfl (by kernel_rfl) (by kernel_rfl) (by kernel_rfl) (fun _ _ _ h => h) (Or.inl ⟨by rfl, ?_⟩) (by assumption) ?_
          rotate_left
          · (intro w hSw; (try dsimp only at hSw); first | (go_simp; done) | (go_simp; with_reducible rfl))
          simp only [List.set_cons_zero, List.set_cons_succ]
          refine wpAnyH_ready (rs := [4]) (by kernel_rfl) (by simp) ?_
          refine AllReadyH.cons rfl (fun K hK => ?_) AllReadyH.nil
          go_simp
          refine (implTreeOk_any (n := 4) (by exact (hQ.out.below kd.out).1)).mono ?_
          rintro e w14 ⟨rfl, hb1⟩
          rw [hKok.out]
          have k14 : Hid (Below wr.heap.size wr w14) := k5.out.trans ((kd.out.trans (hb1.mono kd.out.size)).mono k5.out.size)
          refine hK.out _ _ ⟨cell_on hb1 hHeld.1, cell_on hb1 hHeld.2.1, cell_on hb1 hHeld.2.2.1, cell_on hb1 hHeld.2.2.2⟩ (fun hHeld => ?_)
          clear hK K
          refine take_lit (i := 5) (d := 89) (v := ?_) rfl rfl (by kernel_rfl) (by kernel_rfl) (by kernel_rfl) (fun _ _ _ h => h) (Or.inl ⟨by rfl, ?_⟩) (by assumption) ?_
          rotate_left
          · (intro w hSw; (try dsimp only at hSw); first | (go_simp; done) | (go_simp; with_reducible rfl))
          simp only [List.set_cons_zero, List.set_cons_succ]
          refine take_lit (i := 6) (d := 90) (v := ?_) rfl rfl (by kernel_rfl) (by kernel_rfl) (by kernel_rfl) (fun _ _ _ h => h) (Or.inl ⟨by rfl, ?_⟩) (by assumption) ?_
          rotate_left
          · (intro w hSw; (try dsimp only at hSw); first | (go_simp; done) | (go_simp; with_reducible rfl))
          simp only [List.set_cons_zero, List.set_cons_succ]
          refine take_lit (i := 7) (d := 91) (v := ?_) rfl rfl (by kernel_rfl) (by kernel_rfl) (by kernel_rfl) (fun _ _ _ h => h) (Or.inl ⟨by rfl, ?_⟩) (by assumption) ?_
          rotate_left
          · (intro w hSw; (try dsimp only at hSw); first | (go_simp; done) | (go_simp; with_reducible rfl))
          simp only [List.set_cons_zero, List.set_cons_succ]
          refine take_lit (i := 8) (d := 92) (v := ?_) rfl rfl (by kernel_rfl) (by kernel_rfl) (by kernel_rfl) (fun _ _ _ h => h) (Or.inl ⟨by rfl, ?_⟩) (by assumption) ?_
          rotate_left
          · (intro w hSw; (try dsimp only at hSw); first | (go_simp; done) | (go_simp; with_reducible rfl))
          simp only [List.set_cons_zero, List.set_cons_succ]
          refine take_lit (i := 9) (d := 93) (v := ?_) rfl rfl (by kernel_rfl) (by kernel_rfl) (by kernel_rfl) (fun _ _ _ h => h) (Or.inl ⟨by rfl, ?_⟩) (by assumption) ?_
          rotate_left
          · (intro w hSw; (try dsimp only at hSw); first | (go_simp; done) | (go_simp; with_reducible rfl))
          simp only [List.set_cons_zero, List.set_cons_succ]
          refine take_lit (i := 10) (d := 94) (v := ?_) rfl rfl (by kernel_rfl) (by kernel_rfl) (by kernel_rfl) (fun _ _ _ h => h) (Or.inl ⟨by rfl, ?_⟩) (by assumption) ?_
          rotate_left
          · (intro w hSw; (try dsimp only at hSw); first | (go_simp; done) | (go_simp; with_reducible rfl))
          simp only [List.set_cons_zero, List.set_cons_succ]
          refine take_lit (i := 11) (d := 95) (v := ?_) rfl rfl (by kernel_rfl) (by kernel_rfl) (by kernel_rfl) (fun _ _ _ h => h) (Or.inl ⟨by rfl, ?_⟩) (by assumption) ?_
          rotate_left
          · (intro w hSw; (try dsimp only at hSw); first | (go_simp; done) | (go_simp; with_reducible rfl))
          simp only [List.set_cons_zero, List.set_cons_succ]
          refine take_lit (i := 12) (d := 96) (v := ?_) rfl rfl (by kernel_rfl) (by kernel_rfl) (by kernel_rfl) (fun _ _ _ h => h) (Or.inl ⟨by rfl, ?_⟩) (by assumption) ?_
          rotate_left
          · (intro w hSw; (try dsimp only at hSw); first | (go_simp; done) | (go_simp; with_reducible rfl))
          simp only [List.set_cons_zero, List.set_cons_succ]
          refine take_lit (i := 13) (d := 97) (v := ?_) rfl rfl (by kernel_rfl) (by kernel_rfl) (by kernel_rfl) (fun _ _ _ h => h) (Or.inl ⟨by rfl, ?_⟩) (by assumption) ?_
          rotate_left
          · (intro w hSw; (try dsimp only at hSw); first | (go_simp; done) | (go_simp; with_reducible rfl))
          simp only [List.set_cons_zero, List.set_cons_succ]
          refine take_lit (i := 14) (d := 98) (v := ?_) rfl rfl (by kernel_rfl) (by kernel_rfl) (by kernel_rfl) (fun _ _ _ h => h) (Or.inl ⟨by rfl, ?_⟩) (by assumption) ?_
          rotate_left
          · (intro w hSw; (try dsimp only at hSw); first | (go_simp; done) | (go_simp; with_reducible rfl))
          simp only [List.set_cons_zero, List.set_cons_succ]
          refine take_lit (i := 15) (d := 99) (v := ?_) rfl rfl (by kernel_rfl) (by kernel_rfl) (by kernel_rfl) (fun _ _ _ h => h) (Or.inl ⟨by rfl, ?_⟩) (by assumption) ?_
          rotate_left
          · (intro w hSw; (try dsimp only at hSw); first | (go_simp; done) | (go_simp; with_reducible rfl))
          simp only [List.set_cons_zero, List.set_cons_succ]
          refine take_lit (i := 16) (d := 100) (v := ?_) rfl rfl (by kernel_rfl) (by kernel_rfl) (by kernel_rfl) (fun _ _ _ h => h) (Or.inl ⟨by rfl, ?_⟩) (by assumption) ?_
          rotate_left
          · (intro w hSw; (try dsimp only at hSw); first | (go_simp; done) | (go_simp; with_reducible rfl))
          simp only [List.set_cons_zero, List.set_cons_succ]
          refine take_lit (i := 17) (d := 101) (v := ?_) rfl rfl (by kernel_rfl) (by kernel_rfl) (by kernel_rfl) (fun _ _ _ h => h) (Or.inl ⟨by rfl, ?_⟩) (by assumption) ?_
          rotate_left
          · (intro w hSw; (try dsimp only at hSw); first | (go_simp; done) | (go_simp; with_reducible rfl))
          simp only [List.set_cons_zero, List.set_cons_succ]
          refine take_lit (i := 18) (d := 102) (v := .int .i64 (m : Int)) rfl rfl (by kernel_rfl) (by kernel_rfl) (by kernel_rfl) (fun _ _ _ h => h) (Or.inl ⟨by rfl, ?_⟩) (by assumption) ?_
          · (intro w hSw; (try dsimp only at hSw); go_simp; first | done | omega | (rw [IntKind.wrap_i64]; omega))
          simp only [List.set_cons_zero, List.set_cons_succ]
          refine take_lit (i := 19) (d := 103) (v := ?_) rfl rfl (by kernel_rfl) (by kernel_rfl) (by kernel_rfl) (fun _ _ _ h => h) (Or.inl ⟨by rfl, ?_⟩) (by assumption) ?_
          rotate_left
          · (intro w hSw; (try dsimp only at hSw); first | (go_simp; done) | (go_simp; with_reducible rfl))
          simp only [List.set_cons_zero, List.set_cons_succ]
          refine take_lit (i := 20) (d := 104) (v := ?_) rfl rfl (by kernel_rfl) (by kernel_rfl) (by kernel_rfl) (fun _ _ _ h => h) (Or.inl ⟨by rfl, ?_⟩) (by assumption) ?_
          rotate_left
          · (intro w hSw; (try dsimp only at hSw); first | (go_simp; done) | (go_simp; with_reducible rfl))
          simp only [List.set_cons_zero, List.set_cons_succ]
          refine take_lit (i := 21) (d := 105) (v := ?_) rfl rfl (by kernel_rfl) (by kernel_rfl) (by kernel_rfl) (fun _ _ _ h => h) (Or.inl ⟨by rfl, ?_⟩) (by assumption) ?_
          rotate_left
          · (intro w hSw; (try dsimp only at hSw); first | (go_simp; done) | (go_simp; with_reducible rfl))
          simp only [List.set_cons_zero, List.set_cons_succ]
          refine take_lit (i := 22) (d := 106) (v := .int .i64 ((Q.length : Int) + 1)) rfl rfl (by kernel_rfl) (by kernel_rfl) (by kernel_rfl) (fun _ _ _ h => h) (Or.inl ⟨by rfl, ?_⟩) (by assumption) ?_
          · (intro w hSw; (try dsimp only at hSw); go_simp; first | done | omega | (rw [IntKind.wrap_i64]; omega))
          simp only [List.set_cons_zero, List.set_cons_succ]
          refine take_lit (i := 23) (d := 107) (v := .bool false) rfl rfl (by kernel_rfl) (by kernel_rfl) (by kernel_rfl) (fun _ _ _ h => h) (Or.inl ⟨by rfl, ?_⟩) (by assumption) ?_
          · (intro w hSw; (try dsimp only at hSw); go_simp; first | done | omega | (simp; omega))
          simp only [List.set_cons_zero, List.set_cons_succ]
          refine take_lit (i := 24) (d := 108) (v := ?_) rfl rfl (by kernel_rfl) (by kernel_rfl) (by kernel_rfl) (fun _ _ _ h => h) (Or.inl ⟨by rfl, ?_⟩) (by assumption) ?_
          rotate_left
          · (intro w hSw; (try dsimp only at hSw); first | (go_simp; done) | (go_simp; with_reducible rfl))
          simp only [List.set_cons_zero, List.set_cons_succ]
          refine take_lit (i := 25) (d := 109) (v := ?_) rfl rfl (by kernel_rfl) (by kernel_rfl) (by kernel_rfl) (fun _ _ _ h => h) (Or.inl ⟨by rfl, ?_⟩) (by assumption) ?_
          rotate_left
          · (intro w hSw; (try dsimp only at hSw); first | (go_simp; done) | (go_simp; with_reducible rfl))
          simp only [List.set_cons_zero, List.set_cons_succ]
          refine wpAnyH_done (by kernel_rfl) ?_ _
          obtain ⟨wo, rfl⟩ : ∃ wo, wo = wr := ⟨wr, rfl⟩
          clear hHeld
          go_wp2_with fail
          go_loopw [14] (fun ii wr => ∃ (i : Nat), i ≤ j ∧ ii = .int .i64 i ∧ Hid (Below wo.heap.size wo wr)) (fun ii _ => j - (intOf ii).toNat)
          case atStart => exact ⟨0, Nat.zero_le _, rfl, k14⟩
          case round =>
            obtain ⟨i, hi, rfl, kq⟩ := hrel
            by_cases hij : i < j
            · obtain ⟨br, or, kR, er, _, cR, hR⟩ := ints_pick hPr.out (Nat.lt_trans hij hlt)
              cases er
              have hneR0 := hot.out j i hij hlt
              have hPe := hFj.out
              rw [List.getElem?_eq_getElem hlt] at hPe
              injection hPe with hPe
              rw [hPe] at hneR0
              have hR' : Hid (SeqAt 1 IntAt wo 0 kR (FL[i]'(Nat.lt_trans hij hlt))) := hR
              have hneR : Hid ((FL[i]'(Nat.lt_trans hij hlt)) ≠ P) := hneR0
              clear hR hneR0 hPe
              generalize (FL[i]'(Nat.lt_trans hij hlt)) = R at hR' hneR
              obtain ⟨a6, c6, rfl⟩ := hR'.out.form
              have hij' : (i : Int) < (j : Int) := by omega
              have hiL : (i : Int) < (FL.length : Int) := by omega
              have hi0 : (0 : Int) ≤ (i : Int) := by omega
              go_wp2_with fail
              refine wp_region_held_drew (S := fun w' => w'.cell? ⟨bp, op + i, none⟩ = some (.slice a6 R.length c6) ∧ w'.cell? ⟨bp, op + j, none⟩ = some (.slice a9 P.length c9)) (by kernel_rfl) ⟨cell_on3 kq.out.drew hbp'.out cR, cell_on3 kq.out.drew hbp'.out cP⟩ (fun hHeld => ?_)
              refine take_lit (i := 0) (d := 115) (v := ?_) rfl rfl (by kernel_rfl) (by kernel_rfl) (by kernel_rfl) (fun _ _ _ h => h) (Or.inl ⟨by rfl, ?_⟩) (by assumption) ?_
              rotate_left
              · (intro w hSw; (try dsimp only at hSw); first | (go_simp; done) | (go_simp; with_reducible rfl))
              simp only [List.set_cons_zero, List.set_cons_succ]
              refine take_lit (i := 1) (d := 116) (v := ?_) rfl rfl (by kernel_rfl) (by kernel_rfl) (by kernel_rfl) (fun _ _ _ h => h) (Or.inl ⟨by rfl, ?_⟩) (by assumption) ?_
              rotate_left
              · (intro w hSw; (try dsimp only at hSw); first | (go_simp; done) | (go_simp; with_reducible rfl))
              simp only [List.set_cons_zero, List.set_cons_succ]
              refine take_lit (i := 2) (d := 117) (v := ?_) rfl rfl (by kernel_rfl) (by kernel_rfl) (by kernel_rfl) (fun _ _ _ h => h) (Or.inl ⟨by rfl, ?_⟩) (by assumption) ?_
              rotate_left
              · (intro w hSw; (try dsimp only at hSw); first | (go_simp; done) | (go_simp; with_reducible rfl))
              simp only [List.set_cons_zero, List.set_cons_succ]
              refine take_lit (i := 3) (d := 118) (v := ?_) rfl rfl (by kernel_rfl) (by kernel_rfl) (by kernel_rfl) (fun _ _ _ h => h) (Or.inl ⟨by rfl, ?_⟩) (by assumption) ?_
              rotate_left
              · (intro w hSw; (try dsimp only at hSw); first | (go_simp; done) | (go_simp; with_reducible rfl))
              simp only [List.set_cons_zero, List.set_cons_succ]
              refine take_lit (i := 4) (d := 119) (v := ?_) rfl rfl (by kernel_rfl) (by kernel_rfl) (by kernel_rfl) (fun _ _ _ h => h) (Or.inl ⟨by rfl, ?_⟩) (by assumption) ?_
              rotate_left
              · (intro w hSw; (try dsimp only at hSw); first | (go_simp; done) | (go_simp; with_reducible rfl))
              simp only [List.set_cons_zero, List.set_cons_succ]
              refine take_lit (i := 5) (d := 120) (v := ?_) rfl rfl (by kernel_rfl) (by kernel_rfl) (by kernel_rfl) (fun _ _ _ h => h) (Or.inl ⟨by rfl, ?_⟩) (by assumption) ?_
              rotate_left
              · (intro w hSw; (try dsimp only at hSw); first | (go_simp; done) | (go_simp; with_reducible rfl))
              simp only [List.set_cons_zero, List.set_cons_succ]
              refine take_lit (i := 6) (d := 121) (v := ?_) rfl rfl (by kernel_rfl) (by kernel_rfl) (by kernel_rfl) (fun _ _ _ h => h) (Or.inl ⟨by rfl, ?_⟩) (by assumption) ?_
              rotate_left
              · (intro w hSw; (try dsimp only at hSw); first | (go_simp; done) | (go_simp; with_reducible rfl))
              simp only [List.set_cons_zero, List.set_cons_succ]
              refine take_lit (i := 7) (d := 122) (v := ?_) rfl rfl (by kernel_rfl) (by kernel_rfl) (by kernel_rfl) (fun _ _ _ h => h) (Or.inl ⟨by rfl, ?_⟩) (by assumption) ?_
              rotate_left
              · (intro w hSw; (try dsimp only at hSw); first | (go_simp; done) | (go_simp; with_reducible rfl))
              simp only [List.set_cons_zero, List.set_cons_succ]
              refine wpAnyH_ready (rs := [8]) (by kernel_rfl) (by simp) ?_
              refine AllReadyH.cons rfl (fun K hK => ?_) AllReadyH.nil
              go_simp
              refine (samePath_c (by exact hR'.out.below intAt_stays (kq.out.drew)) (by exact hPj.out.below intAt_stays (kq.out.drew)) hneR.out).mono ?_
              rintro e w19 ⟨rfl, hb1⟩
              have k19 : Hid (Below wo.heap.size wo w19) := kq.out.drew.trans (hb1.mono kq.out.drew.size)
              refine hK.out _ _ ⟨cell_on hb1 hHeld.1, cell_on hb1 hHeld.2⟩ (fun hHeld => ?_)
              clear hK K
              refine wpAnyH_done (by kernel_rfl) ?_ _
              go_wp2_with fail
              go_roundw
              case rel => exact ⟨i + 1, by omega, by go_num, k19⟩
              case measure => simp [intOf]; omega
            · obtain rfl : i = j := by omega
              go_wp2_with fail
              go_roundw
              case rel => exact ⟨i + 1, by omega, by go_num, hGr.out.below kq.out, hPr.out.below IntsAt_stays kq.out, h2r.out.trans (kq.out.mono h2r.out.size)⟩
              case measure => simp [intOf]; omega
      · go_simp
        have kA : Hid (Below wr.heap.size wr (World.alloc wr.drew (.cells #[.string ⟨#[]⟩, .slice none 0 0] 26))) := k0.out.alloc k0.out.size _
        have bxA : Hid (Box (World.alloc wr.drew (.cells #[.string ⟨#[]⟩, .slice none 0 0] 26)) wr.heap.size [.string ⟨#[]⟩, .slice none 0 0] 26) := Box.new wr.drew _ _
        refine hK.out _ _ ⟨cell_on ((Below.refl _ _).alloc (Nat.le_refl _) _) hHeld.1, cell_on ((Below.refl _ _).alloc (Nat.le_refl _) _) hHeld.2.1, cell_on ((Below.refl _ _).alloc (Nat.le_refl _) _) hHeld.2.2⟩ (fun hHeld => ?_)
        clear hK K
        refine wpAnyH_ready (rs := [5]) (by kernel_rfl) (by simp) ?_
        refine AllReadyH.cons rfl (fun K hK => ?_) AllReadyH.nil
        go_simp
        refine (implAt_any (n := 4) (by exact (hGr.out.below kA.out).1) (by exact hPj.out.below intAt_stays kA.out) hPl'.out).mono ?_
        rintro e wC ⟨hAC, hb1⟩
        rw [hAtE.out] at hAC
        obtain ⟨sk, ak, mk, ck, rfl, hxC⟩ := atAns_tree2 hAC
        have kC : Hid (Below wr.heap.size wr wC) := kA.out.trans (hb1.mono kA.out.size)
        have bxC : Hid (Box wC wr.heap.size [.string ⟨#[]⟩, .slice none 0 0] 26) := bxA.out.below hb1 bxA.out.lt
        have hxC' : Hid (TreeAt wC (wr.heap.size + 1) 4 (.string sk) (.slice ak mk ck) DK) := by show TreeAt _ _ _ _ _ _; simpa using hxC
        clear hAC hxC
        refine hK.out _ _ ⟨cell_on hb1 hHeld.1, cell_on hb1 hHeld.2.1, cell_on hb1 hHeld.2.2⟩ (fun hHeld => ?_)
        clear hK K
        refine take_lit (i := 6) (d := 75) (v := ?_) rfl rfl (by kernel_rfl) (by kernel_rfl) (by kernel_rfl) (fun _ _ _ h => h) (Or.inl ⟨by rfl, ?_⟩) (by assumption) ?_
        rotate_left
        · (intro w hSw; (try dsimp only at hSw); first | (go_simp; done) | (go_simp; with_reducible rfl))
        simp only [List.set_cons_zero, List.set_cons_succ]
        refine take_lit (i := 7) (d := 82) (v := ?_) rfl rfl (by kernel_rfl) (by kernel_rfl) (by kernel_rfl) (fun _ _ _ h => h) (Or.inl ⟨by rfl, ?_⟩) (by assumption) ?_
        rotate_left
        · (intro w hSw; (try dsimp only at hSw); first | (go_simp; done) | (go_simp; with_reducible rfl))
        simp only [List.set_cons_zero, List.set_cons_succ]
        refine take_lit (i := 8) (d := 83) (v := ?_) rfl rfl (by kernel_rfl) (by kernel_rfl) (by kernel_rfl) (fun _ _ _ h => h) (Or.inl ⟨by rfl, ?_⟩) (by assumption) ?_
        rotate_left
        · (intro w hSw; (try dsimp only at hSw); first | (go_simp; done) | (go_simp; with_reducible rfl))
        simp only [List.set_cons_zero, List.set_cons_succ]
        refine wpAnyH_ready (rs := [10]) (by kernel_rfl) (by simp) ?_
        refine AllReadyH.cons rfl (fun K hK => ?_) AllReadyH.nil
        have r0 := bxC.out.cell 0 rfl
        have r1 := bxC.out.cell 1 rfl
        have fR := bxC.out.unfrozen
        have bx5 : Hid (Box (World.setCell (World.setCell wC ⟨wr.heap.size, 0, none⟩ (.string sk)) ⟨wr.heap.size, 1, none⟩ (.slice ak mk ck)) (wr.heap.size) [.string sk, .slice ak mk ck] 26) := (bxC.out.set (i := 0) _).set (i := 1) _
        have k5 : Hid (Below wr.heap.size wr (World.setCell (World.setCell wC ⟨wr.heap.size, 0, none⟩ (.string sk)) ⟨wr.heap.size, 1, none⟩ (.slice ak mk ck))) := putCells_below [.string sk, .slice ak mk ck] _ _ _ (wr.heap.size) 0 (Nat.le_refl _) kC.out
        have hx5 : Hid (TreeAt (World.setCell (World.setCell wC ⟨wr.heap.size, 0, none⟩ (.string sk)) ⟨wr.heap.size, 1, none⟩ (.slice ak mk ck)) 0 4 (.string sk) (.slice ak mk ck) DK) := TreeAt.keep (by show _ ≤ (putCells wC (wr.heap.size) 0 [.string sk, .slice ak mk ck]).heap.size; rw [putCells_size]; exact Nat.le_refl _) (Nat.zero_le _) (fun b q1 q2 => putCells_other [.string sk, .slice ak mk ck] wC (wr.heap.size) 0 b (by omega)) 4 _ _ _ hxC'.out
        go_simp
        refine hK.out _ _ ⟨cell_on3 k5.out (by exact hGr.out.2.lt) a0, cell_on3 k5.out (by exact hGr.out.2.lt) a1, cell_on3 k5.out hbp'.out cP⟩ (fun hHeld => ?_)
        clear hK K
        refine take_lit (i := 11) (d := 13) (v := ?_) rfl rfl (by kernel_rfl) (by kernel_rfl) (by kernel_rfl) (fun _ _ _ h => h) (Or.inl ⟨by rfl, ?_⟩) (by assumption) ?_
        rotate_left
        · (intro w hSw; (try dsimp only at hSw); first | (go_simp; done) | (go_simp; with_reducible rfl))
        simp only [List.set_cons_zero, List.set_cons_succ]
        refine wpAnyH_done (by kernel_rfl) ?_ _
        have hQ : Hid (USt (wr.heap.size) (.string sk) (.slice ak mk ck) DK (World.setCell (World.setCell wC ⟨wr.heap.size, 0, none⟩ (.string sk)) ⟨wr.heap.size, 1, none⟩ (.slice ak mk ck))) := ⟨hx5.out, bx5.out⟩
        clear hx5 bx5 r0 r1 fR
        go_upto_region 14 with fail
        generalize (World.setCell (World.setCell wC ⟨wr.heap.size, 0, none⟩ (.string sk)) ⟨wr.heap.size, 1, none⟩ (.slice ak mk ck)) = w13 at hQ k5 ⊢
        obtain ⟨Z, hZ⟩ : ∃ Z, wr.heap.size = Z := ⟨_, rfl⟩
        rw [hZ] at hQ
        simp only [hZ]
        have hZ' : Hid (Z = Z) := rfl
        clear hZ hZ'
        obtain ⟨q0, q1⟩ := USt.cells hQ.out
        have cP5 := cell_on3 k5.out hbp'.out cP
        have kd : Hid (Below w13.heap.size w13 w13.drew) := Below.drew (Below.refl _ _)
        clear a0 a1
        rcases Nat.eq_zero_or_pos j with hjz | hjz
        · have hng : ¬ (0 : Int) < (j : Int) := by omega
          refine wp_region_held_drew (S := fun w' => w'.cell? ⟨Z, 0, none⟩ = some (.string sk) ∧ w'.cell? ⟨Z, 1, none⟩ = some (.slice ak mk ck) ∧ w'.cell? ⟨bp, op + j, none⟩ = some (.slice a9 P.length c9)) (by kernel_rfl) ⟨q0, q1, cP5⟩ (fun hHeld => ?_)
          refine take_lit (i := 0) (d := 84) (v := ?_) rfl rfl (by kernel_rfl) (by kernel_rfl) (by kernel_rfl) (fun _ _ _ h => h) (Or.inl ⟨by rfl, ?_⟩) (by assumption) ?_
          rotate_left
          · (intro w hSw; (try dsimp only at hSw); first | (go_simp; done) | (go_simp; with_reducible rfl))
          simp only [List.set_cons_zero, List.set_cons_succ]
          refine take_lit (i := 1) (d := 85) (v := ?_) rfl rfl (by kernel_rfl) (by kernel_rfl) (by kernel_rfl) (fun _ _ _ h => h) (Or.inl ⟨by rfl, ?_⟩) (by assumption) ?_
          rotate_left
          · (intro w hSw; (try dsimp only at hSw); first | (go_simp; done) | (go_simp; with_reducible rfl))
          simp only [List.set_cons_zero, List.set_cons_succ]
          refine take_lit (i := 2) (d := 86) (v := ?_) rfl rfl (by kernel_rfl) (by kernel_rfl) (by kernel_rfl) (fun _ _ _ h => h) (Or.inl ⟨by rfl, ?_⟩) (by assumption) ?_
          rotate_left
          · (intro w hSw; (try dsimp only at hSw); first | (go_simp; done) | (go_simp; with_reducible rfl))
          simp only [List.set_cons_zero, List.set_cons_succ]
          refine take_lit (i := 3) (d := 87) (v := ?_) rfl rfl (by kernel_rfl) (by kernel_rfl) (by kernel_rfl) (fun _ _ _ h => h) (Or.inl ⟨by rfl, ?_⟩) (by assumption) ?_
          rotate_left
          · (intro w hSw; (try dsimp only at hSw); first | (go_simp; done) | (go_simp; with_reducible rfl))
          simp only [List.set_cons_zero, List.set_cons_succ]
          refine wpAnyH_ready (rs := [4]) (by kernel_rfl) (by simp) ?_
          refine AllReadyH.cons rfl (fun K hK => ?_) AllReadyH.nil
          go_simp
          refine (implTreeOk_any (n := 4) (by exact (hQ.out.below kd.out).1)).mono ?_
          rintro e w14 ⟨rfl, hb1⟩
          rw [hKok.out]
          have k14 : Hid (Below wr.heap.size wr w14) := k5.out.trans ((kd.out.trans (hb1.mono kd.out.size)).mono k5.out.size)
          refine hK.out _ _ ⟨cell_on hb1 hHeld.1, cell_on hb1 hHeld.2.1, cell_on hb1 hHeld.2.2⟩ (fun hHeld => ?_)
          clear hK K
          refine take_lit (i := 5) (d := 89) (v := ?_) rfl rfl (by kernel_rfl) (by kernel_rfl) (by kernel_rfl) (fun _ _ _ h => h) (Or.inl ⟨by rfl, ?_⟩) (by assumption) ?_
          rotate_left
          · (intro w hSw; (try dsimp only at hSw); first | (go_simp; done) | (go_simp; with_reducible rfl))
          simp only [List.set_cons_zero, List.set_cons_succ]
          refine take_lit (i := 6) (d := 90) (v := ?_) rfl rfl (by kernel_rfl) (by kernel_rfl) (by kernel_rfl) (fun _ _ _ h => h) (Or.inl ⟨by rfl, ?_⟩) (by assumption) ?_
          rotate_left
          · (intro w hSw; (try dsimp only at hSw); first | (go_simp; done) | (go_simp; with_reducible rfl))
          simp only [List.set_cons_zero, List.set_cons_succ]
          refine take_lit (i := 7) (d := 91) (v := ?_) rfl rfl (by kernel_rfl) (by kernel_rfl) (by kernel_rfl) (fun _ _ _ h => h) (Or.inl ⟨by rfl, ?_⟩) (by assumption) ?_
          rotate_left
          · (intro w hSw; (try dsimp only at hSw); first | (go_simp; done) | (go_simp; with_reducible rfl))
          simp only [List.set_cons_zero, List.set_cons_succ]
          refine take_lit (i := 8) (d := 92) (v := ?_) rfl rfl (by kernel_rfl) (by kernel_rfl) (by kernel_rfl) (fun _ _ _ h => h) (Or.inl ⟨by rfl, ?_⟩) (by assumption) ?_
          rotate_left
          · (intro w hSw; (try dsimp only at hSw); first | (go_simp; done) | (go_simp; with_reducible rfl))
          simp only [List.set_cons_zero, List.set_cons_succ]
          refine take_lit (i := 9) (d := 93) (v := ?_) rfl rfl (by kernel_rfl) (by kernel_rfl) (by kernel_rfl) (fun _ _ _ h => h) (Or.inl ⟨by rfl, ?_⟩) (by assumption) ?_
          rotate_left
          · (intro w hSw; (try dsimp only at hSw); first | (go_simp; done) | (go_simp; with_reducible rfl))
          simp only [List.set_cons_zero, List.set_cons_succ]
          refine take_lit (i := 10) (d := 94) (v := ?_) rfl rfl (by kernel_rfl) (by kernel_rfl) (by kernel_rfl) (fun _ _ _ h => h) (Or.inl ⟨by rfl, ?_⟩) (by assumption) ?_
          rotate_left
          · (intro w hSw; (try dsimp only at hSw); first | (go_simp; done) | (go_simp; with_reducible rfl))
          simp only [List.set_cons_zero, List.set_cons_succ]
          refine take_lit (i := 11) (d := 95) (v := undef) rfl rfl (by kernel_rfl) (by kernel_rfl) (by kernel_rfl) (fun _ _ _ h => h) (Or.inr ⟨by rfl, rfl⟩) (by assumption) ?_
          simp only [List.set_cons_zero, List.set_cons_succ]
          refine take_lit (i := 12) (d := 96) (v := undef) rfl rfl (by kernel_rfl) (by kernel_rfl) (by kernel_rfl) (fun _ _ _ h => h) (Or.inr ⟨by rfl, rfl⟩) (by assumption) ?_
          simp only [List.set_cons_zero, List.set_cons_succ]
          refine take_lit (i := 13) (d := 97) (v := undef) rfl rfl (by kernel_rfl) (by kernel_rfl) (by kernel_rfl) (fun _ _ _ h => h) (Or.inr ⟨by rfl, rfl⟩) (by assumption) ?_
          simp only [List.set_cons_zero, List.set_cons_succ]
          refine take_lit (i := 14) (d := 98) (v := undef) rfl rfl (by kernel_rfl) (by kernel_rfl) (by kernel_rfl) (fun _ _ _ h => h) (Or.inr ⟨by rfl, rfl⟩) (by assumption) ?_
          simp only [List.set_cons_zero, List.set_cons_succ]
          refine take_lit (i := 15) (d := 99) (v := undef) rfl rfl (by kernel_rfl) (by kernel_rfl) (by kernel_rfl) (fun _ _ _ h => h) (Or.inr ⟨by rfl, rfl⟩) (by assumption) ?_
          simp only [List.set_cons_zero, List.set_cons_succ]
          refine take_lit (i := 16) (d := 100) (v := undef) rfl rfl (by kernel_rfl) (by kernel_rfl) (by kernel_rfl) (fun _ _ _ h => h) (Or.inr ⟨by rfl, rfl⟩) (by assumption) ?_
          simp only [List.set_cons_zero, List.set_cons_succ]
          refine take_lit (i := 17) (d := 101) (v := undef) rfl rfl (by kernel_rfl) (by kernel_rfl) (by kernel_rfl) (fun _ _ _ h => h) (Or.inr ⟨by rfl, rfl⟩) (by assumption) ?_
          simp only [List.set_cons_zero, List.set_cons_succ]
          refine take_lit (i := 18) (d := 102) (v := undef) rfl rfl (by kernel_rfl) (by kernel_rfl) (by kernel_rfl) (fun _ _ _ h => h) (Or.inr ⟨by rfl, rfl⟩) (by assumption) ?_
          simp only [List.set_cons_zero, List.set_cons_succ]
          refine take_lit (i := 19) (d := 103) (v := undef) rfl rfl (by kernel_rfl) (by kernel_rfl) (by kernel_rfl) (fun _ _ _ h => h) (Or.inr ⟨by rfl, rfl⟩) (by assumption) ?_
          simp only [List.set_cons_zero, List.set_cons_succ]
          refine take_lit (i := 20) (d := 104) (v := undef) rfl rfl (by kernel_rfl) (by kernel_rfl) (by kernel_rfl) (fun _ _ _ h => h) (Or.inr ⟨by rfl, rfl⟩) (by assumption) ?_
          simp only [List.set_cons_zero, List.set_cons_succ]
          refine take_lit (i := 21) (d := 105) (v := undef) rfl rfl (by kernel_rfl) (by kernel_rfl) (by kernel_rfl) (fun _ _ _ h => h) (Or.inr ⟨by rfl, rfl⟩) (by assumption) ?_
          simp only [List.set_cons_zero, List.set_cons_succ]
          refine take_lit (i := 22) (d := 106) (v := undef) rfl rfl (by kernel_rfl) (by kernel_rfl) (by kernel_rfl) (fun _ _ _ h => h) (Or.inr ⟨by rfl, rfl⟩) (by assumption) ?_
          simp only [List.set_cons_zero, List.set_cons_succ]
          refine take_lit (i := 23) (d := 107) (v := undef) rfl rfl (by kernel_rfl) (by kernel_rfl) (by kernel_rfl) (fun _ _ _ h => h) (Or.inr ⟨by rfl, rfl⟩) (by assumption) ?_
          simp only [List.set_cons_zero, List.set_cons_succ]
          refine take_lit (i := 24) (d := 108) (v := ?_) rfl rfl (by kernel_rfl) (by kernel_rfl) (by kernel_rfl) (fun _ _ _ h => h) (Or.inl ⟨by rfl, ?_⟩) (by assumption) ?_
          rotate_left
          · (intro w hSw; (try dsimp only at hSw); first | (go_simp; done) | (go_simp; with_reducible rfl))
          simp only [List.set_cons_zero, List.set_cons_succ]
          refine take_lit (i := 25) (d := 109) (v := ?_) rfl rfl (by kernel_rfl) (by kernel_rfl) (by kernel_rfl) (fun _ _ _ h => h) (Or.inl ⟨by rfl, ?_⟩) (by assumption) ?_
          rotate_left
          · (intro w hSw; (try dsimp only at hSw); first | (go_simp; done) | (go_simp; with_reducible rfl))
          simp only [List.set_cons_zero, List.set_cons_succ]
          refine wpAnyH_done (by kernel_rfl) ?_ _
          obtain ⟨wo, rfl⟩ : ∃ wo, wo = wr := ⟨wr, rfl⟩
          clear hHeld
          go_wp2_with fail
          go_loopw [14] (fun ii wr => ∃ (i : Nat), i ≤ j ∧ ii = .int .i64 i ∧ Hid (Below wo.heap.size wo wr)) (fun ii _ => j - (intOf ii).toNat)
          case atStart => exact ⟨0, Nat.zero_le _, rfl, k14⟩
          case round =>
            obtain ⟨i, hi, rfl, kq⟩ := hrel
            by_cases hij : i < j
            · exact absurd hij (by omega)
            · obtain rfl : i = j := by omega
              go_wp2_with fail
              go_roundw
              case rel => exact ⟨i + 1, by omega, by go_num, hGr.out.below kq.out, hPr.out.below IntsAt_stays kq.out, h2r.out.trans (kq.out.mono h2r.out.size)⟩
              case measure => simp [intOf]; omega
        · have hgt : (0 : Int) < (j : Int) := by omega
          obtain ⟨m, hm⟩ : ∃ m, j = m + 1 := ⟨j - 1, by omega⟩
          have hmL : m < FL.length := by omega
          obtain ⟨bq, oq, kQ, eq, _, cQ, hQm⟩ := ints_pick hPr.out hmL
          cases eq
          have hstep : P.length ≤ FL[m].length + 1 := by
            have h1 := hnx.out m (by omega)
            have h2 := hFj.out
            clear hGr hPr h2r k5 hQ
            subst hm
            rw [List.getElem?_eq_getElem hlt] at h2
            injection h2 with h2
            rw [h2] at h1
            exact h1
          obtain ⟨a7, c7, rfl⟩ := hQm.form
          have hQ7 : FL[m].length ≤ 1048576 := (hokP.out _ (List.getElem_mem hmL)).2
          clear hQm
          generalize FL[m] = Q at cQ hstep hQ7
          have cQ5 := cell_on3 k5.out hbp'.out cQ
          have hmL' : (m : Int) < (FL.length : Int) := by omega
          have hm0 : (0 : Int) ≤ (m : Int) := by omega
          have hmi : (j : Int) - 1 = (m : Int) := by omega
          clear hm
          refine wp_region_held_drew (S := fun w' => w'.cell? ⟨Z, 0, none⟩ = some (.string sk) ∧ w'.cell? ⟨Z, 1, none⟩ = some (.slice ak mk ck) ∧ w'.cell? ⟨bp, op + j, none⟩ = some (.slice a9 P.length c9) ∧ w'.cell? ⟨bp, op + m, none⟩ = some (.slice a7 Q.length c7)) (by kernel_rfl) ⟨q0, q1, cP5, cQ5⟩ (fun hHeld => ?_)
          refine take_lit (i := 0) (d := 84) (v := ?_) rfl rfl (by kernel_rfl) (by kernel_rfl) (by kernel_rfl) (fun _ _ _ h => h) (Or.inl ⟨by rfl, ?_⟩) (by assumption) ?_
          rotate_left
          · (intro w hSw; (try dsimp only at hSw); first | (go_simp; done) | (go_simp; with_reducible rfl))
          simp only [List.set_cons_zero, List.set_cons_succ]
          refine take_lit (i := 1) (d := 85) (v := ?_) rfl rfl (by kernel_rfl) (by kernel_rfl) (by kernel_rfl) (fun _ _ _ h => h) (Or.inl ⟨by rfl, ?_⟩) (by assumption) ?_
          rotate_left
          · (intro w hSw; (try dsimp only at hSw); first | (go_simp; done) | (go_simp; with_reducible rfl))
          simp only [List.set_cons_zero, List.set_cons_succ]
          refine take_lit (i := 2) (d := 86) (v := ?_) rfl rfl (by kernel_rfl) (by kernel_rfl) (by kernel_rfl) (fun _ _ _ h => h) (Or.inl ⟨by rfl, ?_⟩) (by assumption) ?_
          rotate_left
          · (intro w hSw; (try dsimp only at hSw); first | (go_simp; done) | (go_simp; with_reducible rfl))
          simp only [List.set_cons_zero, List.set_cons_succ]
          refine take_lit (i := 3) (d := 87) (v := ?_) rfl rfl (by kernel_rfl) (by kernel_rfl) (by kernel_rfl) (fun _ _ _ h => h) (Or.inl ⟨by rfl, ?_⟩) (by assumption) ?_
          rotate_left
          · (intro w hSw; (try dsimp only at hSw); first | (go_simp; done) | (go_simp; with_reducible rfl))
          simp only [List.set_cons_zero, List.set_cons_succ]
          refine wpAnyH_ready (rs := [4]) (by kernel_rfl) (by simp) ?_
          refine AllReadyH.cons rfl (fun K hK => ?_) AllReadyH.nil
          go_simp
          refine (implTreeOk_any (n := 4) (by exact (hQ.out.below kd.out).1)).mono ?_
          rintro e w14 ⟨rfl, hb1⟩
          rw [hKok.out]
          have k14 : Hid (Below wr.heap.size wr w14) := k5.out.trans ((kd.out.trans (hb1.mono kd.out.size)).mono k5.out.size)
          refine hK.out _ _ ⟨cell_on hb1 hHeld.1, cell_on hb1 hHeld.2.1, cell_on hb1 hHeld.2.2.1, cell_on hb1 hHeld.2.2.2⟩ (fun hHeld => ?_)
          clear hK K
          refine take_lit (i := 5) (d := 89) (v := ?_) rfl rfl (by kernel_rfl) (by kernel_rfl) (by kernel_rfl) (fun _ _ _ h => h) (Or.inl ⟨by rfl, ?_⟩) (by assumption) ?_
          rotate_left
          · (intro w hSw; (try dsimp only at hSw); first | (go_simp; done) | (go_simp; with_reducible rfl))
          simp only [List.set_cons_zero, List.set_cons_succ]
          refine take_lit (i := 6) (d := 90) (v := ?_) rfl rfl (by kernel_rfl) (by kernel_rfl) (by kernel_rfl) (fun _ _ _ h => h) (Or.inl ⟨by rfl, ?_⟩) (by assumption) ?_
          rotate_left
          · (intro w hSw; (try dsimp only at hSw); first | (go_simp; done) | (go_simp; with_reducible rfl))
          simp only [List.set_cons_zero, List.set_cons_succ]
          refine take_lit (i := 7) (d := 91) (v := ?_) rfl rfl (by kernel_rfl) (by kernel_rfl) (by kernel_rfl) (fun _ _ _ h => h) (Or.inl ⟨by rfl, ?_⟩) (by assumption) ?_
          rotate_left
          · (intro w hSw; (try dsimp only at hSw); first | (go_simp; done) | (go_simp; with_reducible rfl))
          simp only [List.set_cons_zero, List.set_cons_succ]
          refine take_lit (i := 8) (d := 92) (v := ?_) rfl rfl (by kernel_rfl) (by kernel_rfl) (by kernel_rfl) (fun _ _ _ h => h) (Or.inl ⟨by rfl, ?_⟩) (by assumption) ?_
          rotate_left
          · (intro w hSw; (try dsimp only at hSw); first | (go_simp; done) | (go_simp; with_reducible rfl))
          simp only [List.set_cons_zero, List.set_cons_succ]
          refine take_lit (i := 9) (d := 93) (v := ?_) rfl rfl (by kernel_rfl) (by kernel_rfl) (by kernel_rfl) (fun _ _ _ h => h) (Or.inl ⟨by rfl, ?_⟩) (by assumption) ?_
          rotate_left
          · (intro w hSw; (try dsimp only at hSw); first | (go_simp; done) | (go_simp; with_reducible rfl))
          simp only [List.set_cons_zero, List.set_cons_succ]
          refine take_lit (i := 10) (d := 94) (v := ?_) rfl rfl (by kernel_rfl) (by kernel_rfl) (by kernel_rfl) (fun _ _ _ h => h) (Or.inl ⟨by rfl, ?_⟩) (by assumption) ?_
          rotate_left
          · (intro w hSw; (try dsimp only at hSw); first | (go_simp; done) | (go_simp; with_reducible rfl))
          simp only [List.set_cons_zero, List.set_cons_succ]
          refine take_lit (i := 11) (d := 95) (v := ?_) rfl rfl (by kernel_rfl) (by kernel_rfl) (by kernel_rfl) (fun _ _ _ h => h) (Or.inl ⟨by rfl, ?_⟩) (by assumption) ?_
          rotate_left
          · (intro w hSw; (try dsimp only at hSw); first | (go_simp; done) | (go_simp; with_reducible rfl))
          simp only [List.set_cons_zero, List.set_cons_succ]
          refine take_lit (i := 12) (d := 96) (v := ?_) rfl rfl (by kernel_rfl) (by kernel_rfl) (by kernel_rfl) (fun _ _ _ h => h) (Or.inl ⟨by rfl, ?_⟩) (by assumption) ?_
          rotate_left
          · (intro w hSw; (try dsimp only at hSw); first | (go_simp; done) | (go_simp; with_reducible rfl))
          simp only [List.set_cons_zero, List.set_cons_succ]
          refine take_lit (i := 13) (d := 97) (v := ?_) rfl rfl (by kernel_rfl) (by kernel_rfl) (by kernel_rfl) (fun _ _ _ h => h) (Or.inl ⟨by rfl, ?_⟩) (by assumption) ?_
          rotate_left
          · (intro w hSw; (try dsimp only at hSw); first | (go_simp; done) | (go_simp; with_reducible rfl))
          simp only [List.set_cons_zero, List.set_cons_succ]
          refine take_lit (i := 14) (d := 98) (v := ?_) rfl rfl (by kernel_rfl) (by kernel_rfl) (by kernel_rfl) (fun _ _ _ h => h) (Or.inl ⟨by rfl, ?_⟩) (by assumption) ?_
          rotate_left
          · (intro w hSw; (try dsimp only at hSw); first | (go_simp; done) | (go_simp; with_reducible rfl))
          simp only [List.set_cons_zero, List.set_cons_succ]
          refine take_lit (i := 15) (d := 99) (v := ?_) rfl rfl (by kernel_rfl) (by kernel_rfl) (by kernel_rfl) (fun _ _ _ h => h) (Or.inl ⟨by rfl, ?_⟩) (by assumption) ?_
          rotate_left
          · (intro w hSw; (try dsimp only at hSw); first | (go_simp; done) | (go_simp; with_reducible rfl))
          simp only [List.set_cons_zero, List.set_cons_succ]
          refine take_lit (i := 16) (d := 100) (v := ?_) rfl rfl (by kernel_rfl) (by kernel_rfl) (by kernel_rfl) (fun _ _ _ h => h) (Or.inl ⟨by rfl, ?_⟩) (by assumption) ?_
          rotate_left
          · (intro w hSw; (try dsimp only at hSw); first | (go_simp; done) | (go_simp; with_reducible rfl))
          simp only [List.set_cons_zero, List.set_cons_succ]
          refine take_lit (i := 17) (d := 101) (v := ?_) rfl rfl (by kernel_rfl) (by kernel_rfl) (by kernel_rfl) (fun _ _ _ h => h) (Or.inl ⟨by rfl, ?_⟩) (by assumption) ?_
          rotate_left
          · (intro w hSw; (try dsimp only at hSw); first | (go_simp; done) | (go_simp; with_reducible rfl))
          simp only [List.set_cons_zero, List.set_cons_succ]
          refine take_lit (i := 18) (d := 102) (v := .int .i64 (m : Int)) rfl rfl (by kernel_rfl) (by kernel_rfl) (by kernel_rfl) (fun _ _ _ h => h) (Or.inl ⟨by rfl, ?_⟩) (by assumption) ?_
          · (intro w hSw; (try dsimp only at hSw); go_simp; first | done | omega | (rw [IntKind.wrap_i64]; omega))
          simp only [List.set_cons_zero, List.set_cons_succ]
          refine take_lit (i := 19) (d := 103) (v := ?_) rfl rfl (by kernel_rfl) (by kernel_rfl) (by kernel_rfl) (fun _ _ _ h => h) (Or.inl ⟨by rfl, ?_⟩) (by assumption) ?_
          rotate_left
          · (intro w hSw; (try dsimp only at hSw); first | (go_simp; done) | (go_simp; with_reducible rfl))
          simp only [List.set_cons_zero, List.set_cons_succ]
          refine take_lit (i := 20) (d := 104) (v := ?_) rfl rfl (by kernel_rfl) (by kernel_rfl) (by kernel_rfl) (fun _ _ _ h => h) (Or.inl ⟨by rfl, ?_⟩) (by assumption) ?_
          rotate_left
          · (intro w hSw; (try dsimp only at hSw); first | (go_simp; done) | (go_simp; with_reducible rfl))
          simp only [List.set_cons_zero, List.set_cons_succ]
          refine take_lit (i := 21) (d := 105) (v := ?_) rfl rfl (by kernel_rfl) (by kernel_rfl) (by kernel_rfl) (fun _ _ _ h => h) (Or.inl ⟨by rfl, ?_⟩) (by assumption) ?_
          rotate_left
          · (intro w hSw; (try dsimp only at hSw); first | (go_simp; done) | (go_simp; with_reducible rfl))
          simp only [List.set_cons_zero, List.set_cons_succ]
          refine take_lit (i := 22) (d := 106) (v := .int .i64 ((Q.length : Int) + 1)) rfl rfl (by kernel_rfl) (by kernel_rfl) (by kernel_rfl) (fun _ _ _ h => h) (Or.inl ⟨by rfl, ?_⟩) (by assumption) ?_
          · (intro w hSw; (try dsimp only at hSw); go_simp; first | done | omega | (rw [IntKind.wrap_i64]; omega))
          simp only [List.set_cons_zero, List.set_cons_succ]
          refine take_lit (i := 23) (d := 107) (v := .bool false) rfl rfl (by kernel_rfl) (by kernel_rfl) (by kernel_rfl) (fun _ _ _ h => h) (Or.inl ⟨by rfl, ?_⟩) (by assumption) ?_
          · (intro w hSw; (try dsimp only at hSw); go_simp; first | done | omega | (simp; omega))
          simp only [List.set_cons_zero, List.set_cons_succ]
          refine take_lit (i := 24) (d := 108) (v := ?_) rfl rfl (by kernel_rfl) (by kernel_rfl) (by kernel_rfl) (fun _ _ _ h => h) (Or.inl ⟨by rfl, ?_⟩) (by assumption) ?_
          rotate_left
          · (intro w hSw; (try dsimp only at hSw); first | (go_simp; done) | (go_simp; with_reducible rfl))
          simp only [List.set_cons_zero, List.set_cons_succ]
          refine take_lit (i := 25) (d := 109) (v := ?_) rfl rfl (by kernel_rfl) (by kernel_rfl) (by kernel_rfl) (fun _ _ _ h => h) (Or.inl ⟨by rfl, ?_⟩) (by assumption) ?_
          rotate_left
          · (intro w hSw; (try dsimp only at hSw); first | (go_simp; done) | (go_simp; with_reducible rfl))
          simp only [List.set_cons_zero, List.set_cons_succ]
          refine wpAnyH_done (by kernel_rfl) ?_ _
          obtain ⟨wo, rfl⟩ : ∃ wo, wo = wr := ⟨wr, rfl⟩
          clear hHeld
          go_wp2_with fail
          go_loopw [14] (fun ii wr => ∃ (i : Nat), i ≤ j ∧ ii = .int .i64 i ∧ Hid (Below wo.heap.size wo wr)) (fun ii _ => j - (intOf ii).toNat)
          case atStart => exact ⟨0, Nat.zero_le _, rfl, k14⟩
          case round =>
            obtain ⟨i, hi, rfl, kq⟩ := hrel
            by_cases hij : i < j
            · obtain ⟨br, or, kR, er, _, cR, hR⟩ := ints_pick hPr.out (Nat.lt_trans hij hlt)
              cases er
              have hneR0 := hot.out j i hij hlt
              have hPe := hFj.out
              rw [List.getElem?_eq_getElem hlt] at hPe
              injection hPe with hPe
              rw [hPe] at hneR0
              have hR' : Hid (SeqAt 1 IntAt wo 0 kR (FL[i]'(Nat.lt_trans hij hlt))) := hR
              have hneR : Hid ((FL[i]'(Nat.lt_trans hij hlt)) ≠ P) := hneR0
              clear hR hneR0 hPe
              generalize (FL[i]'(Nat.lt_trans hij hlt)) = R at hR' hneR
              obtain ⟨a6, c6, rfl⟩ := hR'.out.form
              have hij' : (i : Int) < (j : Int) := by omega
              have hiL : (i : Int) < (FL.length : Int) := by omega
              have hi0 : (0 : Int) ≤ (i : Int) := by omega
              go_wp2_with fail
              refine wp_region_held_drew (S := fun w' => w'.cell? ⟨bp, op + i, none⟩ = some (.slice a6 R.length c6) ∧ w'.cell? ⟨bp, op + j, none⟩ = some (.slice a9 P.length c9)) (by kernel_rfl) ⟨cell_on3 kq.out.drew hbp'.out cR, cell_on3 kq.out.drew hbp'.out cP⟩ (fun hHeld => ?_)
              refine take_lit (i := 0) (d := 115) (v := ?_) rfl rfl (by kernel_rfl) (by kernel_rfl) (by kernel_rfl) (fun _ _ _ h => h) (Or.inl ⟨by rfl, ?_⟩) (by assumption) ?_
              rotate_left
              · (intro w hSw; (try dsimp only at hSw); first | (go_simp; done) | (go_simp; with_reducible rfl))
              simp only [List.set_cons_zero, List.set_cons_succ]
              refine take_lit (i := 1) (d := 116) (v := ?_) rfl rfl (by kernel_rfl) (by kernel_rfl) (by kernel_rfl) (fun _ _ _ h => h) (Or.inl ⟨by rfl, ?_⟩) (by assumption) ?_
              rotate_left
              · (intro w hSw; (try dsimp only at hSw); first | (go_simp; done) | (go_simp; with_reducible rfl))
              simp only [List.set_cons_zero, List.set_cons_succ]
              refine take_lit (i := 2) (d := 117) (v := ?_) rfl rfl (by kernel_rfl) (by kernel_rfl) (by kernel_rfl) (fun _ _ _ h => h) (Or.inl ⟨by rfl, ?_⟩) (by assumption) ?_
              rotate_left
              · (intro w hSw; (try dsimp only at hSw); first | (go_simp; done) | (go_simp; with_reducible rfl))
              simp only [List.set_cons_zero, List.set_cons_succ]
              refine take_lit (i := 3) (d := 118) (v := ?_) rfl rfl (by kernel_rfl) (by kernel_rfl) (by kernel_rfl) (fun _ _ _ h => h) (Or.inl ⟨by rfl, ?_⟩) (by assumption) ?_
              rotate_left
              · (intro w hSw; (try dsimp only at hSw); first | (go_simp; done) | (go_simp; with_reducible rfl))
              simp only [List.set_cons_zero, List.set_cons_succ]
              refine take_lit (i := 4) (d := 119) (v := ?_) rfl rfl (by kernel_rfl) (by kernel_rfl) (by kernel_rfl) (fun _ _ _ h => h) (Or.inl ⟨by rfl, ?_⟩) (by assumption) ?_
              rotate_left
              · (intro w hSw; (try dsimp only at hSw); first | (go_simp; done) | (go_simp; with_reducible rfl))
              simp only [List.set_cons_zero, List.set_cons_succ]
              refine take_lit (i := 5) (d := 120) (v := ?_) rfl rfl (by kernel_rfl) (by kernel_rfl) (by kernel_rfl) (fun _ _ _ h => h) (Or.inl ⟨by rfl, ?_⟩) (by assumption) ?_
              rotate_left
              · (intro w hSw; (try dsimp only at hSw); first | (go_simp; done) | (go_simp; with_reducible rfl))
              simp only [List.set_cons_zero, List.set_cons_succ]
              refine take_lit (i := 6) (d := 121) (v := ?_) rfl rfl (by kernel_rfl) (by kernel_rfl) (by kernel_rfl) (fun _ _ _ h => h) (Or.inl ⟨by rfl, ?_⟩) (by assumption) ?_
              rotate_left
              · (intro w hSw; (try dsimp only at hSw); first | (go_simp; done) | (go_simp; with_reducible rfl))
              simp only [List.set_cons_zero, List.set_cons_succ]
              refine take_lit (i := 7) (d := 122) (v := ?_) rfl rfl (by kernel_rfl) (by kernel_rfl) (by kernel_rfl) (fun _ _ _ h => h) (Or.inl ⟨by rfl, ?_⟩) (by assumption) ?_
              rotate_left
              · (intro w hSw; (try dsimp only at hSw); first | (go_simp; done) | (go_simp; with_reducible rfl))
              simp only [List.set_cons_zero, List.set_cons_succ]
              refine wpAnyH_ready (rs := [8]) (by kernel_rfl) (by simp) ?_
              refine AllReadyH.cons rfl (fun K hK => ?_) AllReadyH.nil
              go_simp
              refine (samePath_c (by exact hR'.out.below intAt_stays (kq.out.drew)) (by exact hPj.out.below intAt_stays (kq.out.drew)) hneR.out).mono ?_
              rintro e w19 ⟨rfl, hb1⟩
              have k19 : Hid (Below wo.heap.size wo w19) := kq.out.drew.trans (hb1.mono kq.out.drew.size)
              refine hK.out _ _ ⟨cell_on hb1 hHeld.1, cell_on hb1 hHeld.2⟩ (fun hHeld => ?_)
              clear hK K
              refine wpAnyH_done (by kernel_rfl) ?_ _
              go_wp2_with fail
              go_roundw
              case rel => exact ⟨i + 1, by omega, by go_num, k19⟩
              case measure => simp [intOf]; omega
            · obtain rfl : i = j := by omega
              go_wp2_with fail
              go_roundw
              case rel => exact ⟨i + 1, by omega, by go_num, hGr.out.below kq.out, hPr.out.below IntsAt_stays kq.out, h2r.out.trans (kq.out.mono h2r.out.size)⟩
              case measure => simp [intOf]; omega
    · obtain rfl : j = FL.length := by omega
      have hL1 : 0 < FL.length := by
        have h1 := hsz.out
        cases e : szD 4 xa 30 with
        | none => have := hok'.out; rw [e] at this; cases this
        | some mm => rw [e] at h1; have := (szD_range _ _ _ _ e).1; simp only [resI] at h1; omega
      obtain ⟨bp, op, kP, rfl, hbp, cP, hP⟩ := ints_pick hPr.out hL1
      rw [hf0.out hL1] at hP
      obtain ⟨a9, c9, rfl⟩ := hP.form
      have hbp' : Hid (bp < wr.heap.size) := hbp
      have hL1' : (0 : Int) < (FL.length : Int) := by omega
      have hRI : resI (szD 4 xa 30) = (FL.length : Int) := hsz.out.symm
      simp only [Nat.add_zero, List.length_nil] at cP
      clear hP hbp
      go_wp2_with fail
      refine (implSizeOf_any (n := 4) (by exact hGr.out.1)).mono ?_
      rintro e wE ⟨rfl, hbE⟩
      rw [hRI]
      have cPE := cell_on3 hbE hbp'.out cP
      have kE : Hid (Below wr.heap.size wr wE) := hbE
      clear hbE cP
      go_wp2_with fail
      go_ret
      exact ⟨by first | rfl | simp, hB2.out.trans ((h2r.out.trans (kE.out.mono h2r.out.size)).mono hB2.out.size)⟩
end Go.Proofs.Ytgmgbjeejlkdmaa.fnPaths
