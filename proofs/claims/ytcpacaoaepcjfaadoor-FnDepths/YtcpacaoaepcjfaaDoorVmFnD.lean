/- What FnDepths calls: equal lists, the drawn program, the drawn instruction; no depth is greater than there is room for. -/
import Derived.Test.YtcpacaoaepcjfaaDoorVmProgW
import Derived.Deep.RegionHeld3
namespace Go.Proofs.YtcpacaoaepcjfaaDoor
open Go.RowKit
set_option maxHeartbeats 800000 in
theorem sameInts_any {w : World} {lo lo2 : Nat} {k k2 : Value} {xs : List Int} (hk : SeqAt 1 IntAt w lo k xs) (hk2 : SeqAt 1 IntAt w lo2 k2 xs) :
    Calls Tryd.prog 10 #[k, k2] w fun e w' => e = .returned (.bool true) ∧ Below w.heap.size w w' := by
  obtain ⟨a, cap, rfl, hm, hx⟩ := hk
  obtain ⟨a2, cap2, rfl, _, hx2⟩ := hk2
  unfold maxLen at hm
  have hx' : Hid _ := hx
  have hx2' : Hid _ := hx2
  clear hx hx2
  go_enter Tryd.func10, Tryd.ntmps10
  go_wp2_with fail
  go_loopw [5] (fun i wr => ∃ (j : Nat), j ≤ xs.length ∧ i = .int .i64 j ∧ Below w.heap.size w wr) (fun i _ => xs.length - (intOf i).toNat)
  case atStart => exact ⟨0, by omega, rfl, Below.refl _ _⟩
  case round =>
    obtain ⟨j, hj, rfl, hb⟩ := hrel
    by_cases hlt : j < xs.length
    · obtain ⟨b, off, rfl, hlo, hbw, hc⟩ := hx'.out (by omega)
      obtain ⟨b2, off2, rfl, hlo2, hbw2, hc2⟩ := hx2'.out (by omega)
      obtain ⟨cs, hcl, lie, hr⟩ := hc j hlt
      obtain ⟨cs2, hcl2, lie2, hr2⟩ := hc2 j hlt
      have lie1 := Lie.keep (lo := lo) (lo' := lo) lie (.of_below hb) hlo hbw
      have lie3 := Lie.keep (lo := lo2) (lo' := lo2) lie2 (.of_below hb) hlo2 hbw2
      generalize xs[j] = X at hr hr2
      obtain ⟨rfl, hI⟩ := hr
      obtain ⟨rfl, _⟩ := hr2
      have z0 := lie1 0 (by simp)
      have z1 := lie3 0 (by simp)
      simp only [List.getElem?_cons_zero, Nat.add_zero, Nat.mul_one] at z0 z1
      have hlt' : (j : Int) < (xs.length : Int) := by omega
      have h0' : (0 : Int) ≤ (j : Int) := by omega
      clear lie lie2 lie1 lie3 hcl hcl2 hx' hx2' hc hc2
      go_wp2_with fail
      go_region_held3 (fun w' => w'.cell? ⟨b, off + j, none⟩ = some (.int .i64 X) ∧ w'.cell? ⟨b2, off2 + j, none⟩ = some (.int .i64 X)) (go_keep) (fail)
      go_wp2_with fail
      go_roundw
      case rel => exact ⟨j + 1, by omega, by go_num, hb.drew⟩
      case measure => simp [intOf]; omega
    · go_wp2_with fail
      go_ret
      exact ⟨rfl, hb⟩
theorem big_any {a : Option Addr} {n cap : Nat} (w : World) : Calls Tryd.prog 5 #[.slice a n cap] w fun e w' => e = .returned (.bool (decide ((1048576 : Int) < (n : Int)))) ∧ w' = w := by
  go_enter Tryd.func5, Tryd.ntmps5
  go_wp2_with fail
  go_ret
  exact ⟨rfl, rfl⟩
/-- a drawn program: its row lies at the head of a new block -/
def Drawn (w w' : World) (r cp : Nat) (ps : List InstrD) : Prop := w'.ownsRow w.heap.size 30 3 (.slice (some ⟨r, 0, none⟩) ps.length cp) ps.length (flatIn ps) ∧ ps.length ≤ 50 ∧ ∀ x ∈ ps, InOk x
theorem drawDepths_any {w : World} {a : Option Addr} {n cap : Nat} (h : CodeAt w a n) :
    Calls Tryd.prog 6 #[.slice a n cap] w fun e w' => (∃ r cp ps, e = .returned (.slice (some ⟨r, 0, none⟩) ps.length cp) ∧ Drawn w w' r cp ps) ∧ Below w.heap.size w w' := by
  have h' : Hid (CodeAt w a n) := h
  clear h
  go_enter Tryd.func6, Tryd.ntmps6
  go_wp2_with fail
  refine (open_any h'.out).mono ?_
  rintro e w1 ⟨g, rfl, hg, hr, hb1⟩
  have hb1' : Hid (Below w.heap.size w w1) := hb1
  have hg' : Hid (w.heap.size ≤ g) := hg
  have hr' : Hid (RdAt w1 g a n cap) := hr
  clear hb1 hg hr
  go_wp2_with fail
  refine (prog_any hr'.out 8 (by omega) (by omega)).mono ?_
  rintro e w2 ⟨⟨v, ps, rfl, ho, hv, hl, hok⟩, _, hgr⟩
  have hB2 : Hid (Below w.heap.size w w2) := below_grown hb1'.out hg'.out hgr
  rcases ho.2 with ⟨q, _⟩ | ⟨r, cp, cur, rfl, q1, q2⟩
  · exact absurd q hv
  have hD : Hid (Drawn w w2 r cp ps) := ⟨⟨ho.1, Or.inr ⟨r, cp, cur, rfl, Nat.le_trans hb1'.out.size q1, q2⟩⟩, hl, hok⟩
  clear ho hv hl hok hgr q1 q2
  go_wp2_with fail
  go_ret
  exact ⟨⟨_, _, ps, rfl, hD.out⟩, hB2.out⟩
set_option maxRecDepth 100000 in
set_option maxHeartbeats 2000000 in
theorem drawInstr_any {w : World} {a : Option Addr} {n cap : Nat} (h : CodeAt w a n) :
    Calls Tryd.prog 9 #[.slice a n cap] w fun e w' => (∃ x, e = .returned (.agg #[.int .i64 x.vKind, .int .i64 x.vN, .string x.vName]) ∧ InOk x) ∧ Below w.heap.size w w' := by
  have h' : Hid (CodeAt (w.alloc (.cells #[.int .i64 0, .int .i64 0, .string ⟨#[]⟩] 30)) a n) := h.below ((Below.refl _ _).alloc (Nat.le_refl _) _)
  have bz0 : Hid (Box (w.alloc (.cells #[.int .i64 0, .int .i64 0, .string ⟨#[]⟩] 30)) w.heap.size [.int .i64 0, .int .i64 0, .string ⟨#[]⟩] 30) := Box.new w _ _
  have hb0 : Hid (Below w.heap.size w (w.alloc (.cells #[.int .i64 0, .int .i64 0, .string ⟨#[]⟩] 30))) := (Below.refl _ _).alloc (Nat.le_refl _) _
  clear h
  go_enter Tryd.func9, Tryd.ntmps9
  go_wp2_with fail
  refine (open_any h'.out).mono ?_
  rintro e w1 ⟨g, rfl, hg, hr, hb1⟩
  have hg' : w.heap.size + 1 ≤ g := by simpa using hg
  have hb1' : Hid (Below w.heap.size w w1) := hb0.out.trans (hb1.mono hb0.out.size)
  have bz1 : Hid (Box w1 w.heap.size [.int .i64 0, .int .i64 0, .string ⟨#[]⟩] 30) := bz0.out.below hb1 bz0.out.lt
  have hr' : Hid (RdAt w1 g a n cap) := hr
  clear hb1 hg hr hb0 bz0
  go_wp2_with fail
  refine (instr_any hr'.out 2 3 (by omega) (by omega) (by omega) (by omega)).mono ?_
  rintro e w2 ⟨⟨x, rfl, hxo⟩, hr2, hg2⟩
  have hxl : Hid ((inL x).toArray = #[.int .i64 x.vKind, .int .i64 x.vN, .string x.vName]) := rfl
  rw [hxl.out]
  have hB2 : Hid (Below w.heap.size w w2) := below_grown hb1'.out (by omega) hg2
  have bz2 : Hid (Box w2 w.heap.size [.int .i64 0, .int .i64 0, .string ⟨#[]⟩] 30) := box_other bz1.out (by omega) hg2
  have hgl : g < w2.heap.size := hr2.lt
  have hB3 : Hid (Below w.heap.size w (w2.alloc (.cells #[.int .i64 x.vKind, .int .i64 x.vN, .string x.vName] 30))) := hB2.out.alloc hB2.out.size _
  have bz3 : Hid (Box (w2.alloc (.cells #[.int .i64 x.vKind, .int .i64 x.vN, .string x.vName] 30)) w.heap.size [.int .i64 0, .int .i64 0, .string ⟨#[]⟩] 30) := bz2.out.alloc _
  have bx3 : Hid (Box (w2.alloc (.cells #[.int .i64 x.vKind, .int .i64 x.vN, .string x.vName] 30)) w2.heap.size (inL x) 30) := Box.new w2 _ _
  have hr3 : Hid (RdAt (w2.alloc (.cells #[.int .i64 x.vKind, .int .i64 x.vN, .string x.vName] 30)) g a n cap) := rd_alloc hr2 _
  have hxo' : Hid (InOk x) := hxo
  clear hr2 hg2 hB2 bz2 hxo hr' hb1' bz1
  go_upto_region 3 with fail
  generalize (w2.alloc (.cells #[.int .i64 x.vKind, .int .i64 x.vN, .string x.vName] 30)) = w3 at hB3 bz3 bx3 hr3 ⊢
  generalize w2.heap.size = gi at bx3 hgl ⊢
  go_wp2_with fail
  refine (once_any hr3.out 4 (by omega) (by omega)).mono ?_
  rintro e w4 ⟨bb, rfl, hr4, hg4⟩
  have hB4 : Hid (Below w.heap.size w w4) := below_grown hB3.out (by omega) hg4
  have bz4 : Hid (Box w4 w.heap.size [.int .i64 0, .int .i64 0, .string ⟨#[]⟩] 30) := box_other bz3.out (by omega) hg4
  have bx4 : Hid (Box w4 gi (inL x) 30) := box_other bx3.out (by omega) hg4
  have hr4' : Hid (RdAt w4 g a n cap) := hr4
  clear hr4 hg4 hB3 bz3 bx3 hr3
  have key : ∀ (wz : World) (y : InstrD), Box wz gi (inL y) 30 → Box wz w.heap.size [.int .i64 0, .int .i64 0, .string ⟨#[]⟩] 30 → Below w.heap.size w wz → InOk y →
      Below w.heap.size w (((wz.setCell ⟨w.heap.size, 0, none⟩ (.int .i64 y.vKind)).setCell ⟨w.heap.size, 1, none⟩ (.int .i64 y.vN)).setCell ⟨w.heap.size, 2, none⟩ (.string y.vName)) := fun wz y _ _ h _ => putCells_below [.int .i64 y.vKind, .int .i64 y.vN, .string y.vName] _ _ _ w.heap.size 0 (Nat.le_refl _) h
  have key' : Hid _ := key
  clear key
  rcases (show bb = false ∨ bb = true by cases bb <;> simp) with rfl | rfl
  · have fr0 := bx4.out.cell 0 rfl
    have fr1 := bx4.out.cell 1 rfl
    have fr2 := bx4.out.cell 2 rfl
    have fz0 := bz4.out.cell 0 rfl
    have fz1 := bz4.out.cell 1 rfl
    have fz2 := bz4.out.cell 2 rfl
    have fu0 := bz4.out.unfrozen 0
    have fu1 := bz4.out.unfrozen 1
    have fu2 := bz4.out.unfrozen 2
    have bF : Hid (Box _ _ _ _) := ((bz4.out.set (i := 0) (.int .i64 x.vKind)).set (i := 1) (.int .i64 x.vN)).set (i := 2) (.string x.vName)
    go_wp2_with fail
    have r0 := bF.out.cell 0 rfl
    have r1 := bF.out.cell 1 rfl
    have r2 := bF.out.cell 2 rfl
    exact bodyPost_ret (v := .agg #[.int .i64 x.vKind, .int .i64 x.vN, .string x.vName]) (by simp [results, Tryd.results9, go_sem, r0, r1, r2]) rfl ⟨⟨x, rfl, hxo'.out⟩, key'.out _ x bx4.out bz4.out hB4.out hxo'.out⟩
  · go_wp2_with fail
    refine (off_any hr4'.out 1 15 (by omega) (by omega) (by omega) (by omega)).mono ?_
    rintro e w5 ⟨v5, rfl, hv5, hr5, hg5⟩
    have hB5 : Hid (Below w.heap.size w (w5.setCell ⟨gi, 0, none⟩ (.int .i64 v5))) := (below_grown hB4.out (by omega) hg5).setCell (by show _ ≤ gi; omega) _
    have bz5 : Hid (Box (w5.setCell ⟨gi, 0, none⟩ (.int .i64 v5)) w.heap.size [.int .i64 0, .int .i64 0, .string ⟨#[]⟩] 30) := (box_other bz4.out (by omega) hg5).other (by omega) _
    have b5 : Box w5 gi (inL x) 30 := box_other bx4.out (by omega) hg5
    have cS := b5.cell 0 rfl
    have uS := b5.unfrozen 0
    have bx5 : Hid (Box (w5.setCell ⟨gi, 0, none⟩ (.int .i64 v5)) gi (inL ⟨v5, x.vN, x.vName⟩) 30) := b5.set (i := 0) _
    have hyo : Hid (InOk ⟨v5, x.vN, x.vName⟩) := ⟨hv5, hxo'.out.2⟩
    clear b5 hv5 hr5 hg5 hB4 bz4 bx4
    go_upto_region 5 with fail
    generalize (w5.setCell ⟨gi, 0, none⟩ (.int .i64 v5)) = w6 at hB5 bz5 bx5 ⊢
    generalize (⟨v5, x.vN, x.vName⟩ : InstrD) = y at bx5 hyo
    clear cS uS
    have fr0 := bx5.out.cell 0 rfl
    have fr1 := bx5.out.cell 1 rfl
    have fr2 := bx5.out.cell 2 rfl
    have fz0 := bz5.out.cell 0 rfl
    have fz1 := bz5.out.cell 1 rfl
    have fz2 := bz5.out.cell 2 rfl
    have fu0 := bz5.out.unfrozen 0
    have fu1 := bz5.out.unfrozen 1
    have fu2 := bz5.out.unfrozen 2
    have bF : Hid (Box _ _ _ _) := ((bz5.out.set (i := 0) (.int .i64 y.vKind)).set (i := 1) (.int .i64 y.vN)).set (i := 2) (.string y.vName)
    go_wp2_with fail
    have r0 := bF.out.cell 0 rfl
    have r1 := bF.out.cell 1 rfl
    have r2 := bF.out.cell 2 rfl
    exact bodyPost_ret (v := .agg #[.int .i64 y.vKind, .int .i64 y.vN, .string y.vName]) (by simp [results, Tryd.results9, go_sem, r0, r1, r2]) rfl ⟨⟨y, rfl, hyo.out⟩, key'.out _ y bx5.out bz5.out hB5.out hyo.out⟩
/-- no depth is greater than there is room for -/
theorem told_six {p : List InstrD} {ys : List Int} (h : Told p true ys) (i : Nat) : labAt ys i ≤ 6 := by
  rcases h with ⟨_, hc, hm⟩ | ⟨q, _⟩
  · rcases Int.lt_or_le 6 (labAt ys i) with hbig | hle
    · exfalso
      have hl : ∀ k, labAt (ys.map fun y => if 6 < y then -1 else y) k = if 6 < labAt ys k then -1 else labAt ys k := fun k => by
        unfold labAt
        rw [List.getD_eq_getElem?_getD, List.getD_eq_getElem?_getD, List.getElem?_map]
        cases ys[k]? <;> simp
      have hC : Closed p (ys.map fun y => if 6 < y then -1 else y) := by
        refine ⟨by simpa using hc.1, by rw [hl, hc.2.1]; rfl, fun k hk => ?_⟩
        rw [hl] at hk
        have hk6 : ¬ 6 < labAt ys k := fun q => hk (if_pos q)
        rw [if_neg hk6] at hk
        obtain ⟨x, h1, h2, h3, h4, h5⟩ := hc.2.2 k hk
        have e := hl k
        rw [if_neg hk6] at e
        refine ⟨x, h1, by omega, by omega, by rw [e]; exact h4, fun j hj => ?_⟩
        obtain ⟨q1, q2⟩ := h5 j hj
        refine ⟨q1, ?_⟩
        rw [hl, q2, if_neg (by omega), e]
      have := (hm _ hC).2 i (by omega)
      rw [hl, if_pos hbig] at this
      omega
    · exact hle
  · cases q
end Go.Proofs.YtcpacaoaepcjfaaDoor
