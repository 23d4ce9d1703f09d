/- The draw of a program walked. -/
import Derived.Test.YtdapgihghbmlfaaGreatDoorVmProg
import Derived.Laws.AppendOwn
namespace Go.Proofs.YtdapgihghbmlfaaGreatDoor
open Go.RowKit
theorem flatIn_snoc (ps : List InstrD) (xs : List InstrD) : flatIn ps ++ flatIn xs = flatIn (ps ++ xs) := (flatIn_append ps xs).symm
theorem row_own {w : World} {base n r cp : Nat} {xs : List Value} (h : w.ownsRow base 34 3 (.slice (some ⟨r, 0, none⟩) n cp) n xs) : base ≤ r ∧ r < w.heap.size := by
  rcases h.2 with ⟨q, _⟩ | ⟨g, cap, cur, q, h1, h2, _⟩
  · cases q
  · injection q with q1 _ q3
    injection q1 with q1
    injection q1 with q1
    subst q1; exact ⟨h1, (Array.getElem?_eq_some_iff.1 h2).1⟩
theorem ok_pop : InOk ⟨13, 0, ⟨#[]⟩⟩ := ⟨⟨by decide, by decide⟩, inI_zero, Nat.zero_le 100⟩
theorem ok_of {k : Int} (h1 : 0 ≤ k) (h2 : k ≤ 20) : InOk ⟨k, 0, ⟨#[]⟩⟩ := ⟨inI_small (n := k) (by omega) (by omega), inI_zero, Nat.zero_le 100⟩
theorem ok_app {ps qs : List InstrD} (h : ∀ x ∈ ps, InOk x) (k : ∀ x ∈ qs, InOk x) : ∀ x ∈ ps ++ qs, InOk x := fun x hx => (List.mem_append.1 hx).elim (h x) (k x)
/-- a row of at most so many, and the reader -/
def P2 (w : World) (g : Nat) (a : Option Addr) (n cap L : Nat) (v : Value) (wx : World) : Prop := ∃ ps r cp, v = .slice (some ⟨r, 0, none⟩) ps.length cp ∧ ps.length ≤ L ∧ wx.ownsRow w.heap.size 34 3 v ps.length (flatIn ps) ∧ (∀ x ∈ ps, InOk x) ∧ RdAt wx g a n cap ∧ w.grownBy wx (some g)
theorem p2_app {w wx w5 : World} {g r cp n cap k L : Nat} {a : Option Addr} {ps qs : List InstrD} {v5 : Value} (hr : RdAt wx g a n cap) (hg : w.grownBy wx (some g)) (hown : wx.ownsRow w.heap.size 34 3 (.slice (some ⟨r, 0, none⟩) ps.length cp) ps.length (flatIn ps)) (hok : ∀ x ∈ ps, InOk x)
    (ho5 : w5.ownsRow w.heap.size 34 3 v5 (ps.length + k) (flatIn ps ++ flatIn qs)) (hk : qs.length = k) (hg5 : wx.grownBy w5 (Value.slice (some ⟨r, 0, none⟩) ps.length cp).ownBlock) (hn5 : ¬ v5 = .slice none 0 0) (hq : ∀ x ∈ qs, InOk x) (hgw : g < w.heap.size) (hL : ps.length + k ≤ L) : P2 w g a n cap L v5 w5 := by
  have hrr := row_own hown
  have hg5' : wx.grownBy w5 (some r) := hg5
  rcases ho5.2 with ⟨q, _⟩ | ⟨r5, cp5, cur, q, _⟩
  · exact absurd q hn5
  · refine ⟨ps ++ qs, r5, cp5, by rw [q]; simp [hk], by simp [hk]; exact hL, ?_, ok_app hok hq, rd_grown hr hg5' (by omega), grown_row hg hg5' hrr.1⟩
    rw [flatIn_append]
    have : (ps ++ qs).length = ps.length + k := by simp [hk]
    rw [this]; exact ho5
set_option maxRecDepth 100000 in
set_option maxHeartbeats 8000000 in
theorem prog_any {w : World} {g : Nat} {a : Option Addr} {n cap : Nat} (h : RdAt w g a n cap) (most : Int) (hm1 : 1 ≤ most) (hm8 : most ≤ 8) :
    Calls Tryz.prog 24 #[.pointer (some ⟨g, 0, none⟩), .int .i64 most] w fun e w' => ProgR w e w' ∧ RdAt w' g a n cap ∧ w.grownBy w' (some g) := by
  have hgw : g < w.heap.size := h.lt
  have h0 : Hid (RdAt w g a n cap) := h
  clear h
  obtain ⟨iT, hiT, heT⟩ := Option.map_eq_some_iff.1 infoIn
  simp only [Prod.mk.injEq] at heT
  have hI : Hid (Tryz.prog.info? 34 = some iT) := hiT
  have hE : Hid (iT.zero = some (.agg #[.int .i64 0, .int .i64 0, .string ⟨#[]⟩]) ∧ iT.bytes = 32 ∧ iT.size = 3) := heT
  clear hiT heT
  have hr1 : Hid (RdAt (w.alloc (.cells #[] 34)) g a n cap) := rd_alloc h0.out _
  have hg1 : Hid (w.grownBy (w.alloc (.cells #[] 34)) (some g)) := grown_alloc (grown_refl _ _) _
  have ho1 : Hid ((w.alloc (.cells #[] 34)).ownsRow w.heap.size 34 3 (.slice (some ⟨w.heap.size, 0, none⟩) 0 0) 0 []) := ⟨rfl, Or.inr ⟨_, _, #[], rfl, Nat.le_refl _, (MapKept.heap_alloc w _).1, Nat.le_refl _, Nat.zero_le _, rfl, rfl⟩⟩
  go_enter Tryz.func24, Tryz.ntmps24
  go_wp2_with fail
  refine (below_any hr1.out most (by omega) (by omega)).mono ?_
  rintro e w2 ⟨v, rfl, v0, v1, hr2, hg2⟩
  obtain ⟨m, rfl⟩ : ∃ m : Nat, v = (m : Int) := ⟨v.toNat, by omega⟩
  have hPL : Hid (PL w g a n cap (.slice (some ⟨w.heap.size, 0, none⟩) 0 0) (.int .i64 0) (.int .i64 (1 + (m : Int))) w2) := ⟨[], _, _, 0, m + 1, rfl, rfl, by push_cast; rw [Int.add_comm], by omega, by omega, by omega, by simp; omega, own_grown ho1.out hg2 hgw, by simp, hr2, grown_on hg1.out hg2⟩
  have hwm := wrap_small (n := 1 + (m : Int)) (by omega) (by omega)
  clear hr1 hg1 ho1 hr2 hg2
  go_wp2_with fail
  go_loopw [5, 6, 7] (fun v d i wr => Hid (PL w g a n cap v d i wr)) (fun _ _ i _ => (intOf i).toNat)
  case atStart => exact hPL.out
  case round =>
    obtain ⟨ps, r, cp, deep, j, rfl, rfl, rfl, hj8, hdl, hdh, hpl, hown, hok, hrd, hgr⟩ := hrel.out
    have hown' : Hid (wr.ownsRow w.heap.size 34 3 (.slice (some ⟨r, 0, none⟩) ps.length cp) ps.length (flatIn ps)) := hown
    have hok' : Hid (∀ x ∈ ps, InOk x) := hok
    have hrd' : Hid (RdAt wr g a n cap) := hrd
    have hgr' : Hid (w.grownBy wr (some g)) := hgr
    have hrr : w.heap.size ≤ r ∧ r < wr.heap.size := row_own hown
    have hsz : w.heap.size ≤ wr.heap.size := hgr.size
    clear hrel hown hok hrd hgr
    by_cases hj : 0 < j
    · have hj' : (0 : Int) < (j : Int) := by omega
      go_wp2_with fail
      refine (instr_any hrd'.out deep (ps.length : Int) (by omega) (by omega) (by omega) (by omega)).mono ?_
      rintro e w3 ⟨⟨x, rfl, hxo⟩, hr3, hg3⟩
      have hs3 := hg3.size
      have hPS : Hid (PS w g a n cap (.slice (some ⟨r, 0, none⟩) ps.length cp) ps w3.heap.size (w3.alloc (.cells (inL x).toArray 34))) := ⟨x, Box.new w3 _ _, hxo, rd_alloc hr3 _, grown_alloc (grown_on hgr'.out hg3) _, (own_grown hown'.out hg3 hgw).alloc _⟩
      have hr3r : r < w3.heap.size := by omega
      have hxl : Hid ((inL x).toArray = #[.int .i64 x.vKind, .int .i64 x.vN, .string x.vName]) := rfl
      clear hr3 hg3 hxo hown' hrd' hgr'
      rw [hxl.out] at hPS ⊢
      go_upto_region 7 with fail
      generalize (w3.alloc (.cells #[.int .i64 x.vKind, .int .i64 x.vN, .string x.vName] 34)) = w4 at hPS ⊢
      generalize hg8 : w3.heap.size = g8 at hPS hs3 hr3r ⊢
      clear hg8 hxl
      go_upto_if 26 with fail
      go_cut [27] (fun _ wx => Hid (PS w g a n cap (.slice (some ⟨r, 0, none⟩) ps.length cp) ps g8 wx))
      case first =>
        by_cases h4 : 4 ≤ deep
        · obtain ⟨y, by0, hyo, hy1, hy2, hy3⟩ := hPS.out
          have c0 := by0.cell 0 rfl
          have c1 := by0.cell 1 rfl
          have c2 := by0.cell 2 rfl
          have u0 := by0.unfrozen 0
          have u1 := by0.unfrozen 1
          have u2 := by0.unfrozen 2
          have hne : ∀ r' cp', Value.slice (some ⟨r, 0, none⟩) ps.length cp = .slice (some ⟨r', 0, none⟩) ps.length cp' → r' ≠ g8 := fun r' cp' q => by injection q with q1 _ _; injection q1 with q1; injection q1 with q1; omega
          have hN : Hid (PS w g a n cap (.slice (some ⟨r, 0, none⟩) ps.length cp) ps g8 (((w4.setCell ⟨g8, 0, none⟩ (.int .i64 13)).setCell ⟨g8, 1, none⟩ (.int .i64 0)).setCell ⟨g8, 2, none⟩ (.string ⟨#[]⟩))) :=
            ⟨⟨13, 0, ⟨#[]⟩⟩, ((by0.set (i := 0) _).set (i := 1) _).set (i := 2) _, ok_pop, rd_set (rd_set (rd_set hy1 (by omega) _) (by omega) _) (by omega) _, grown_new (grown_new (grown_new hy2 (by omega) _) (by omega) _) (by omega) _, own_set (own_set (own_set hy3 hne) hne) hne⟩
          clear by0 hyo hy1 hy2 hy3 hne
          go_wp2_with fail
          go_meet
          exact hN.out
        · go_wp2_with fail
          go_meet
          exact hPS.out
      case rest =>
        obtain ⟨y, by0, hyo, hy1, hy2, hy3⟩ := hcut.out
        have bx1 : Hid (Box wc g8 (inL y) 34) := by0
        have hyo' : Hid (InOk y) := hyo
        have hr1 : Hid (RdAt wc g a n cap) := hy1
        have hg1 : Hid (w.grownBy wc (some g)) := hy2
        have ho1 : Hid (wc.ownsRow w.heap.size 34 3 (.slice (some ⟨r, 0, none⟩) ps.length cp) ps.length (flatIn ps)) := hy3
        have hsc : w.heap.size ≤ wc.heap.size := hy2.size
        have hgc : g8 < wc.heap.size := by0.lt
        have c0 := by0.cell 0 rfl
        have c1 := by0.cell 1 rfl
        have c2 := by0.cell 2 rfl
        clear hcut hPS by0 hyo hy1 hy2 hy3
        have hta := takesT_range y.vKind
        have hga := givesT_range y.vKind
        generalize htk : takesT y.vKind = tk at hta
        generalize hgv : givesT y.vKind = gv at hga
        have htk1 : Hid (takesT y.vKind = tk ∧ givesT y.vKind = gv) := ⟨htk, hgv⟩
        have hw1 := wrap_small (n := deep - tk) (by omega) (by omega)
        have hw2 := wrap_small (n := deep - tk + gv) (by omega) (by omega)
        clear htk hgv
        have bn : Hid (Box (wc.alloc (.cells (flatIn [y]).toArray 34)) wc.heap.size (flatIn [y]) 34) := Box.new wc _ _
        have hfl : Hid ((flatIn [y]).toArray = #[.int .i64 y.vKind, .int .i64 y.vN, .string y.vName]) := rfl
        rw [hfl.out] at bn
        have ho2 : Hid ((wc.alloc (.cells #[.int .i64 y.vKind, .int .i64 y.vN, .string y.vName] 34)).ownsRow w.heap.size 34 3 (.slice (some ⟨r, 0, none⟩) ps.length cp) ps.length (flatIn ps)) := ho1.out.alloc _
        have hr2 : Hid (RdAt (wc.alloc (.cells #[.int .i64 y.vKind, .int .i64 y.vN, .string y.vName] 34)) g a n cap) := rd_alloc hr1.out _
        have hg2 : Hid (w.grownBy (wc.alloc (.cells #[.int .i64 y.vKind, .int .i64 y.vN, .string y.vName] 34)) (some g)) := grown_alloc hg1.out _
        have bx2 : Hid (Box (wc.alloc (.cells #[.int .i64 y.vKind, .int .i64 y.vN, .string y.vName] 34)) g8 (inL y) 34) := bx1.out.alloc _
        have hz2 : (wc.alloc (.cells #[.int .i64 y.vKind, .int .i64 y.vN, .string y.vName] 34)).heap.size = wc.heap.size + 1 := by simp
        go_wp2_with (first | (go_at_call 46; refine (l13Need_any _ _).mono ?_; rintro e w' ⟨rfl, e9⟩; have e10 := e9.symm; clear e9; subst e10; rw [htk1.out.1, htk1.out.2]) | (at_builtin; refine wpList_append_own _ rfl _ _ 24 rfl (w.heap.size) 34 iT (.agg #[.int .i64 0, .int .i64 0, .string ⟨#[]⟩]) 3 32 Tryz.underlying24 hI.out hE.out.1 hE.out.2.2 hE.out.2.1 rfl (by decide) _ (ps.length) (flatIn ps) rfl ho2.out ⟨wc.heap.size, 0, none⟩ 1 1 (flatIn [y]) rfl rfl (news_box bn.out) (flatIn_one _) (by unfold maxLen; omega) (by omega) (by omega) ?_))
        intro v5 w5 ho5 hg5 hn5
        have hp2 : Hid (P2 w g a n cap (ps.length + 1) v5 w5) := p2_app hr2.out hg2.out ho2.out hok'.out ho5 rfl hg5 hn5 (by simpa using hyo'.out) hgw (Nat.le_refl _)
        have bx5 : Hid (Box w5 g8 (inL y) 34) := (hg5.block g8 (by rw [hz2]; omega) (fun e => by have e' : some g8 = some r := e; injection e' with e'; omega)).trans bx2.out
        clear ho5 hg5 hn5 ho2 hr2 hg2 bn bx2 c0 c1 c2 hz2
        have c0 := bx5.out.cell 0 rfl
        go_upto_if 45 with fail
        go_cut [5] (fun v wx => Hid (P2 w g a n cap (ps.length + 3) v wx))
        case first =>
          obtain ⟨p1, r1, cp1, rfl, hl1, ho6, hok6, hr6, hg6⟩ := hp2.out
          by_cases k11 : y.vKind = 11
          · rw [k11] at c0
            have bn : Hid (Box (w5.alloc (.cells (flatIn [⟨2, 0, ⟨#[]⟩⟩, ⟨13, 0, ⟨#[]⟩⟩]).toArray 34)) w5.heap.size (flatIn [⟨2, 0, ⟨#[]⟩⟩, ⟨13, 0, ⟨#[]⟩⟩]) 34) := Box.new w5 _ _
            have hfl2 : Hid ((flatIn [⟨2, 0, ⟨#[]⟩⟩, ⟨13, 0, ⟨#[]⟩⟩]).toArray = #[.int .i64 2, .int .i64 0, .string ⟨#[]⟩, .int .i64 13, .int .i64 0, .string ⟨#[]⟩]) := rfl
            rw [hfl2.out] at bn
            have ho7 : Hid ((w5.alloc (.cells #[.int .i64 2, .int .i64 0, .string ⟨#[]⟩, .int .i64 13, .int .i64 0, .string ⟨#[]⟩] 34)).ownsRow w.heap.size 34 3 (.slice (some ⟨r1, 0, none⟩) p1.length cp1) p1.length (flatIn p1)) := ho6.alloc _
            have hr7 : Hid (RdAt (w5.alloc (.cells #[.int .i64 2, .int .i64 0, .string ⟨#[]⟩, .int .i64 13, .int .i64 0, .string ⟨#[]⟩] 34)) g a n cap) := rd_alloc hr6 _
            have hg7 : Hid (w.grownBy (w5.alloc (.cells #[.int .i64 2, .int .i64 0, .string ⟨#[]⟩, .int .i64 13, .int .i64 0, .string ⟨#[]⟩] 34)) (some g)) := grown_alloc hg6 _
            have hz7 : w.heap.size ≤ (w5.alloc (.cells #[.int .i64 2, .int .i64 0, .string ⟨#[]⟩, .int .i64 13, .int .i64 0, .string ⟨#[]⟩] 34)).heap.size := hg7.out.size
            have hok6' : Hid (∀ x ∈ p1, InOk x) := hok6
            clear ho6 hr6 hg6 hok6
            go_wp2_with (at_builtin; refine wpList_append_own _ rfl _ _ 24 rfl (w.heap.size) 34 iT (.agg #[.int .i64 0, .int .i64 0, .string ⟨#[]⟩]) 3 32 Tryz.underlying24 hI.out hE.out.1 hE.out.2.2 hE.out.2.1 rfl (by decide) _ (p1.length) (flatIn p1) rfl ho7.out ⟨w5.heap.size, 0, none⟩ 2 2 (flatIn [⟨2, 0, ⟨#[]⟩⟩, ⟨13, 0, ⟨#[]⟩⟩]) rfl rfl (news_box bn.out) (flatIn_one _) (by unfold maxLen; omega) (by omega) (by omega) ?_)
            intro v8 w8 ho8 hg8 hn8
            have hp8 : Hid (P2 w g a n cap (ps.length + 3) v8 w8) := p2_app hr7.out hg7.out ho7.out hok6'.out ho8 rfl hg8 hn8 (by intro x hx; simp at hx; rcases hx with rfl | rfl; exact ok_of (by omega) (by omega); exact ok_of (by omega) (by omega)) hgw (by omega)
            clear ho8 hg8 hn8
            go_wp2_with fail
            go_meet
            exact hp8.out
          · have k11b : (y.vKind == 11) = false := by simpa using k11
            go_wp2_with fail
            go_meet
            exact ⟨p1, r1, cp1, rfl, by omega, ho6, hok6, hr6, hg6⟩
        case rest =>
          obtain ⟨p1, r1, cp1, rfl, hl1, ho6, hok6, hr6, hg6⟩ := hcut.out
          have ho6' : Hid (wc.ownsRow w.heap.size 34 3 (.slice (some ⟨r1, 0, none⟩) p1.length cp1) p1.length (flatIn p1)) := ho6
          have hok6' : Hid (∀ x ∈ p1, InOk x) := hok6
          have hr6' : Hid (RdAt wc g a n cap) := hr6
          have hg6' : Hid (w.grownBy wc (some g)) := hg6
          have hwj := wrap_small (n := (j : Int) - 1) (by omega) (by omega)
          clear hcut ho6 hok6 hr6 hg6 hp2 c0 bx5
          go_wp2_with fail
          refine (once_any hr6'.out 30 (by omega) (by omega)).mono ?_
          rintro e w9 ⟨bb, rfl, hr9, hg9⟩
          have ho9 : Hid (w9.ownsRow w.heap.size 34 3 (.slice (some ⟨r1, 0, none⟩) p1.length cp1) p1.length (flatIn p1)) := own_grown ho6'.out hg9 hgw
          have hr9' : Hid (RdAt w9 g a n cap) := hr9
          have hg9' : Hid (w.grownBy w9 (some g)) := grown_on hg6'.out hg9
          clear hr9 hg9 ho6' hr6' hg6'
          rcases (show bb = false ∨ bb = true by cases bb <;> simp) with rfl | rfl
          · go_wp2_with fail
            go_roundw
            case rel => exact ⟨p1, r1, cp1, deep - tk + gv, j - 1, rfl, rfl, by rw [Int.ofNat_sub (by omega)]; rfl, by omega, by omega, by omega, by omega, ho9.out, hok6'.out, hr9'.out, hg9'.out⟩
            case measure => simp [intOf]; omega
          · have bn : Hid (Box (w9.alloc (.cells (flatIn [⟨10, 0, ⟨#[]⟩⟩]).toArray 34)) w9.heap.size (flatIn [⟨10, 0, ⟨#[]⟩⟩]) 34) := Box.new w9 _ _
            have hfl2 : Hid ((flatIn [⟨10, 0, ⟨#[]⟩⟩]).toArray = #[.int .i64 10, .int .i64 0, .string ⟨#[]⟩]) := rfl
            rw [hfl2.out] at bn
            have ho7 : Hid ((w9.alloc (.cells #[.int .i64 10, .int .i64 0, .string ⟨#[]⟩] 34)).ownsRow w.heap.size 34 3 (.slice (some ⟨r1, 0, none⟩) p1.length cp1) p1.length (flatIn p1)) := ho9.out.alloc _
            have hr7 : Hid (RdAt (w9.alloc (.cells #[.int .i64 10, .int .i64 0, .string ⟨#[]⟩] 34)) g a n cap) := rd_alloc hr9'.out _
            have hg7 : Hid (w.grownBy (w9.alloc (.cells #[.int .i64 10, .int .i64 0, .string ⟨#[]⟩] 34)) (some g)) := grown_alloc hg9'.out _
            have hz7 : w.heap.size ≤ (w9.alloc (.cells #[.int .i64 10, .int .i64 0, .string ⟨#[]⟩] 34)).heap.size := hg7.out.size
            go_wp2_with (at_builtin; refine wpList_append_own _ rfl _ _ 24 rfl (w.heap.size) 34 iT (.agg #[.int .i64 0, .int .i64 0, .string ⟨#[]⟩]) 3 32 Tryz.underlying24 hI.out hE.out.1 hE.out.2.2 hE.out.2.1 rfl (by decide) _ (p1.length) (flatIn p1) rfl ho7.out ⟨w9.heap.size, 0, none⟩ 1 1 (flatIn [⟨10, 0, ⟨#[]⟩⟩]) rfl rfl (news_box bn.out) (flatIn_one _) (by unfold maxLen; omega) (by omega) (by omega) ?_)
            intro v8 w8 ho8 hg8 hn8
            have hp8 : Hid (P2 w g a n cap (ps.length + 4) v8 w8) := p2_app hr7.out hg7.out ho7.out hok6'.out ho8 rfl hg8 hn8 (by intro x hx; simp at hx; rcases hx with rfl; exact ok_of (by omega) (by omega)) hgw (by omega)
            obtain ⟨p2, r2, cp2, rfl, hl2, ho10, hok10, hr10, hg10⟩ := hp8.out
            have hF : Hid (w8.ownsRow w.heap.size 34 3 (.slice (some ⟨r2, 0, none⟩) p2.length cp2) p2.length (flatIn p2) ∧ (∀ x ∈ p2, InOk x) ∧ RdAt w8 g a n cap ∧ w.grownBy w8 (some g)) := ⟨ho10, hok10, hr10, hg10⟩
            clear ho8 hg8 hn8 ho10 hok10 hr10 hg10 hp8
            go_wp2_with fail
            go_roundw
            case rel => exact ⟨p2, r2, cp2, deep - tk + gv, j - 1, rfl, rfl, by rw [Int.ofNat_sub (by omega)]; rfl, by omega, by omega, by omega, by omega, hF.out.1, hF.out.2.1, hF.out.2.2.1, hF.out.2.2.2⟩
            case measure => simp [intOf]; omega
    · obtain rfl : j = 0 := by omega
      have bn : Hid (Box (wr.alloc (.cells (flatIn [⟨15, 0, ⟨#[]⟩⟩]).toArray 34)) wr.heap.size (flatIn [⟨15, 0, ⟨#[]⟩⟩]) 34) := Box.new wr _ _
      have hfl2 : Hid ((flatIn [⟨15, 0, ⟨#[]⟩⟩]).toArray = #[.int .i64 15, .int .i64 0, .string ⟨#[]⟩]) := rfl
      rw [hfl2.out] at bn
      have ho7 : Hid ((wr.alloc (.cells #[.int .i64 15, .int .i64 0, .string ⟨#[]⟩] 34)).ownsRow w.heap.size 34 3 (.slice (some ⟨r, 0, none⟩) ps.length cp) ps.length (flatIn ps)) := hown'.out.alloc _
      have hr7 : Hid (RdAt (wr.alloc (.cells #[.int .i64 15, .int .i64 0, .string ⟨#[]⟩] 34)) g a n cap) := rd_alloc hrd'.out _
      have hg7 : Hid (w.grownBy (wr.alloc (.cells #[.int .i64 15, .int .i64 0, .string ⟨#[]⟩] 34)) (some g)) := grown_alloc hgr'.out _
      have hz7 : w.heap.size ≤ (wr.alloc (.cells #[.int .i64 15, .int .i64 0, .string ⟨#[]⟩] 34)).heap.size := hg7.out.size
      go_wp2_with (at_builtin; refine wpList_append_own _ rfl _ _ 24 rfl (w.heap.size) 34 iT (.agg #[.int .i64 0, .int .i64 0, .string ⟨#[]⟩]) 3 32 Tryz.underlying24 hI.out hE.out.1 hE.out.2.2 hE.out.2.1 rfl (by decide) _ (ps.length) (flatIn ps) rfl ho7.out ⟨wr.heap.size, 0, none⟩ 1 1 (flatIn [⟨15, 0, ⟨#[]⟩⟩]) rfl rfl (news_box bn.out) (flatIn_one _) (by unfold maxLen; omega) (by omega) (by omega) ?_)
      intro v8 w8 ho8 hg8 hn8
      have hp8 : Hid (P2 w g a n cap (ps.length + 1) v8 w8) := p2_app hr7.out hg7.out ho7.out hok'.out ho8 rfl hg8 hn8 (by intro x hx; simp at hx; rcases hx with rfl; exact ok_of (by omega) (by omega)) hgw (by omega)
      obtain ⟨p2, r2, cp2, rfl, hl2, ho10, hok10, hr10, hg10⟩ := hp8.out
      have hF : Hid (w8.ownsRow w.heap.size 34 3 (.slice (some ⟨r2, 0, none⟩) p2.length cp2) p2.length (flatIn p2) ∧ (∀ x ∈ p2, InOk x) ∧ RdAt w8 g a n cap ∧ w.grownBy w8 (some g)) := ⟨ho10, hok10, hr10, hg10⟩
      clear ho8 hg8 hn8 ho10 hok10 hr10 hg10 hp8
      go_wp2_with fail
      go_ret
      exact ⟨⟨_, p2, rfl, hF.out.1, by simp, by omega, hF.out.2.1⟩, hF.out.2.2.1, hF.out.2.2.2⟩
end Go.Proofs.YtdapgihghbmlfaaGreatDoor
