/- What is drawn as a number: word, near, off of the reader. -/
import Derived.Test.YtdnembnlomnceaaGreatSeq
import Derived.Test.YtdnembnlomnceaaGreatRows
import Derived.WalkKit
import Derived.Deep.QuietTactic
import Derived.BigQuiet
import Derived.Maps.AppendAt
import Derived.Laws.Closers25b
namespace Go.Proofs.YtdnembnlomnceaaGreat
open Go.RowKit
/-- n bytes lie in memory, ahead of the block g -/
def ByteRow (w : World) (g : Nat) (a : Option Addr) (n : Nat) : Prop :=
 0 < n → ∃ b off, a = some ⟨b, off, none⟩ ∧ b < g ∧ ∀ i, i < n → ∃ x : Int, w.cell? ⟨b, off + i, none⟩ = some (.int .u8 x) ∧ 0 ≤ x ∧ x ≤ 255
/-- a reader lies in the block g -/
def RdAt (w : World) (g : Nat) (a : Option Addr) (n cap : Nat) : Prop :=
 n ≤ 1048576 ∧ ∃ p : Nat, p ≤ n ∧ Box w g [.slice a n cap, .int .i64 p] 83 ∧ ByteRow w g a n
theorem ByteRow.keep {w w' : World} {g : Nat} {a : Option Addr} {n : Nat} (h : ByteRow w g a n) (hk : ∀ b, b < g → w'.heap[b]? = w.heap[b]?) : ByteRow w' g a n := by
 intro h0
 obtain ⟨b, off, e, h1, h3⟩ := h h0
 refine ⟨b, off, e, h1, fun i hi => ?_⟩
 obtain ⟨x, c, r⟩ := h3 i hi
 exact ⟨x, by rw [World.cell?_of_block (w := w) (w' := w') (hk b h1)]; exact c, r⟩
theorem RdAt.keep {w w' : World} {g : Nat} {a : Option Addr} {n cap : Nat} (h : RdAt w g a n cap) (hk : ∀ b, b ≤ g → w'.heap[b]? = w.heap[b]?) : RdAt w' g a n cap := by
 obtain ⟨hn, p, hp, hx, hr⟩ := h
 exact ⟨hn, p, hp, (hk g (Nat.le_refl _)).trans hx, hr.keep (fun b hb => hk b (Nat.le_of_lt hb))⟩
theorem RdAt.below {w w' : World} {g : Nat} {a : Option Addr} {n cap : Nat} (h : RdAt w g a n cap) (hb : Below w.heap.size w w') : RdAt w' g a n cap := by
 have hlt : g < w.heap.size := by obtain ⟨_, _, _, hx, _⟩ := h; exact hx.lt
 exact h.keep (fun b q => hb.block b (by omega))
theorem RdAt.lt {w : World} {g : Nat} {a : Option Addr} {n cap : Nat} (h : RdAt w g a n cap) : g < w.heap.size := by
 obtain ⟨_, _, _, hx, _⟩ := h; exact hx.lt
theorem grown_refl (w : World) (r : Option Nat) : w.grownBy w r := ⟨rfl, rfl, rfl, Nat.le_refl _, fun _ _ _ => rfl⟩
theorem grown_of_below {w w' : World} (hb : Below w.heap.size w w') (r : Option Nat) : w.grownBy w' r := ⟨hb.os, hb.tape, hb.output, hb.size, fun b h _ => hb.block b h⟩
/-- what lay ahead of the reader is as it was -/
theorem below_grown {w0 w w' : World} {g : Nat} (hb : Below w0.heap.size w0 w) (hg : w0.heap.size ≤ g) (h : w.grownBy w' (some g)) : Below w0.heap.size w0 w' :=
 hb.grown h hb.size fun k hk => by injection hk with e; omega
theorem grown_step {w : World} {g i q r : Nat} (v : Value) : w.grownBy (((w.drewN q).setCell ⟨g, i, none⟩ v).drewN r) (some g) :=
 ⟨rfl, rfl, rfl, by simp [World.setCell, World.drewN], fun b _ hne => set_other (w := w.drewN q) (fun e => hne (by rw [e])) v⟩
theorem grown_drew {w : World} {q : Nat} {r : Option Nat} : w.grownBy (w.drewN q) r := ⟨rfl, rfl, rfl, Nat.le_refl _, fun _ _ _ => rfl⟩
theorem rd_step {w : World} {g : Nat} {a : Option Addr} {n cap p : Nat} (hn : n ≤ 1048576) (hp : p + 1 ≤ n) (hx : Box w g [.slice a n cap, .int .i64 p] 83) (hr : ByteRow w g a n) : RdAt (w.setCell ⟨g, 1, none⟩ (.int .i64 ((p : Int) + 1))) g a n cap := by
 refine ⟨hn, p + 1, hp, ?_, hr.keep (fun b hb => set_other (by omega) _)⟩
 have := Box.set (i := 1) hx (.int .i64 ((p : Int) + 1))
 exact this
set_option maxHeartbeats 1000000 in
theorem next_any {w : World} {g : Nat} {a : Option Addr} {n cap : Nat} (h : RdAt w g a n cap) :
 Calls Tryz.prog 80 #[.pointer (some ⟨g, 0, none⟩)] w fun e w' => ∃ v : Int, e = .returned (.int .i64 v) ∧ 0 ≤ v ∧ v ≤ 255 ∧ RdAt w' g a n cap ∧ w.grownBy w' (some g) := by
 have h' : Hid (RdAt w g a n cap) := h
 obtain ⟨hn, p, hp, hx, hr⟩ := h
 have hx' : Hid (Box w g [.slice a n cap, .int .i64 p] 83) := hx
 have c0 := hx.cell 0 rfl
 have c1 := hx.cell 1 rfl
 have f1 := hx.unfrozen 1
 have hr' : Hid (ByteRow w g a n) := hr
 clear hr hx
 by_cases hlt : p < n
 · obtain ⟨b, off, rfl, hbg, hc⟩ := hr'.out (by omega)
   obtain ⟨x, hcx, hx0, hx1⟩ := hc p hlt
   clear hc
   have hle : decide ((n : Int) ≤ (p : Int)) = false := by simpa using hlt
   go_enter Tryz.func80, Tryz.ntmps80
   go_wp2_with fail
   go_quiet (fail)
   have hst : Hid (RdAt ((w.drewN nq).setCell ⟨g, 1, none⟩ (.int .i64 ((p : Int) + 1))) g (some ⟨b, off, none⟩) n cap) := rd_step (w := w.drewN nq) hn hlt hx'.out hr'.out
   have bx1 : Hid (Box ((w.drewN nq).setCell ⟨g, 1, none⟩ (.int .i64 ((p : Int) + 1))) g [.slice (some ⟨b, off, none⟩) n cap, .int .i64 ((p : Int) + 1)] 83) := Box.set (w := w.drewN nq) (i := 1) hx'.out _
   have d0 := bx1.out.cell 0 rfl
   have d1 := bx1.out.cell 1 rfl
   have hcx2 : ((w.drewN nq).setCell ⟨g, 1, none⟩ (.int .i64 ((p : Int) + 1))).cell? ⟨b, off + p, none⟩ = some (.int .u8 x) := by
    rw [World.cell?_of_block (w := w) (set_other (w := w.drewN nq) (Nat.ne_of_lt hbg) _)]; exact hcx
   have hpn : (p : Int) < (n : Int) := by omega
   have hp0 : (0 : Int) ≤ (p : Int) := by omega
   have hsub : (p : Int) + 1 - 1 = (p : Int) := by omega
   go_wp2_with fail
   go_quiet (fail)
   go_wp2_with fail
   go_ret
   exact ⟨x, rfl, hx0, hx1, hst.out, grown_step _⟩
 · have hle : (n : Int) ≤ (p : Int) := by omega
   go_enter Tryz.func80, Tryz.ntmps80
   go_wp2_with fail
   go_quiet (fail)
   go_wp2_with fail
   go_ret
   exact ⟨0, rfl, by omega, by omega, h'.out, grown_drew⟩
set_option maxHeartbeats 1000000 in
theorem below_any {w : World} {g : Nat} {a : Option Addr} {n cap : Nat} (h : RdAt w g a n cap) (m : Int) (h1 : 1 ≤ m) (h2 : m ≤ 16777216) :
 Calls Tryz.prog 43 #[.pointer (some ⟨g, 0, none⟩), .int .i64 m] w fun e w' => ∃ v : Int, e = .returned (.int .i64 v) ∧ 0 ≤ v ∧ v < m ∧ RdAt w' g a n cap ∧ w.grownBy w' (some g) := by
 have h' : Hid (RdAt w g a n cap) := h
 clear h
 by_cases hm1 : m ≤ 1
 · go_enter Tryz.func43, Tryz.ntmps43
   go_wp2_with fail
   go_ret
   exact ⟨0, rfl, by omega, by omega, h'.out, grown_refl _ _⟩
 have hz : ¬ m = 0 := by omega
 by_cases hm2 : m ≤ 256
 · go_enter Tryz.func43, Tryz.ntmps43
   go_wp2_with fail
   refine (next_any h'.out).mono ?_
   rintro e w1 ⟨v, rfl, v0, v1, hr1, hg1⟩
   have hr1' : Hid (RdAt w1 g a n cap) := hr1
   have hg1' : Hid (w.grownBy w1 (some g)) := hg1
   clear hr1 hg1
   go_wp2_with fail
   go_ret
   refine ⟨_, rfl, ?_, ?_, hr1'.out, hg1'.out⟩
   · exact Int.emod_nonneg _ hz
   · exact Int.emod_lt_of_pos _ (by omega)
 · go_enter Tryz.func43, Tryz.ntmps43
   go_wp2_with fail
   refine (next_any h'.out).mono ?_
   rintro e w1 ⟨v, rfl, v0, v1, hr1, hg1⟩
   have hr1' : Hid (RdAt w1 g a n cap) := hr1
   have hg1' : Hid (w.grownBy w1 (some g)) := hg1
   clear hr1 hg1
   go_wp2_with fail
   refine (next_any hr1'.out).mono ?_
   rintro e w2 ⟨v2, rfl, v20, v21, hr2, hg2⟩
   have hr2' : Hid (RdAt w2 g a n cap) := hr2
   have hg2' : Hid (w.grownBy w2 (some g)) := hg1'.out.trans hg2
   clear hr2 hg2
   go_wp2_with fail
   go_ret
   refine ⟨_, rfl, ?_, ?_, hr2'.out, hg2'.out⟩
   · exact Int.emod_nonneg _ hz
   · exact Int.emod_lt_of_pos _ (by omega)
set_option maxHeartbeats 1000000 in
theorem once_any {w : World} {g : Nat} {a : Option Addr} {n cap : Nat} (h : RdAt w g a n cap) (m : Int) (h1 : 1 ≤ m) (h2 : m ≤ 16777216) :
 Calls Tryz.prog 47 #[.pointer (some ⟨g, 0, none⟩), .int .i64 m] w fun e w' => ∃ v : Bool, e = .returned (.bool v) ∧ RdAt w' g a n cap ∧ w.grownBy w' (some g) := by
 have h' : Hid (RdAt w g a n cap) := h
 clear h
 go_enter Tryz.func47, Tryz.ntmps47
 go_wp2_with fail
 refine (below_any h'.out m h1 h2).mono ?_
 rintro e w1 ⟨v, rfl, v0, v1, hr1, hg1⟩
 have hr1' : Hid (RdAt w1 g a n cap) := hr1
 have hg1' : Hid (w.grownBy w1 (some g)) := hg1
 clear hr1 hg1
 go_wp2_with fail
 go_ret
 exact ⟨_, rfl, hr1'.out, hg1'.out⟩
/-- a row of texts: one of them -/
theorem box_str {w : World} {g : Nat} {ss : List ByteArray} {T : TypeId} (h : Box w g (ss.map Value.string) T) (k : Nat) (hk : k < ss.length) : w.cell? ⟨g, k, none⟩ = some (.string ss[k]) :=
 Box.cell h k (by rw [List.getElem?_map, List.getElem?_eq_getElem hk]; rfl)
theorem box_other {w w' : World} {g h : Nat} {cs : List Value} {T : TypeId} (hx : Box w h cs T) (hne : h ≠ g) (hg : w.grownBy w' (some g)) : Box w' h cs T :=
 (hg.block h hx.lt (fun e => hne (by injection e))).trans hx
theorem mem_le {ss : List ByteArray} {m : Nat} (h : (ss.all fun s => decide (s.size ≤ m)) = true) (k : Nat) (hk : k < ss.length) : ss[k].size ≤ m := by
 have := List.all_eq_true.1 h ss[k] (List.getElem_mem hk)
 simpa using this
/-- the code that is drawn by lies in memory -/
def CodeAt (w : World) (a : Option Addr) (n : Nat) : Prop :=
 n ≤ 1048576 ∧ (0 < n → ∃ b off, a = some ⟨b, off, none⟩ ∧ b < w.heap.size ∧ ∀ i, i < n → ∃ x : Int, w.cell? ⟨b, off + i, none⟩ = some (.int .u8 x) ∧ 0 ≤ x ∧ x ≤ 255)
theorem CodeAt.below {w w' : World} {a : Option Addr} {n : Nat} (h : CodeAt w a n) (hb : Below w.heap.size w w') : CodeAt w' a n := by
 refine ⟨h.1, fun h0 => ?_⟩
 obtain ⟨b, off, e, h2, h3⟩ := h.2 h0
 refine ⟨b, off, e, Nat.lt_of_lt_of_le h2 hb.size, fun i hi => ?_⟩
 obtain ⟨x, c, r⟩ := h3 i hi
 exact ⟨x, (hb.cell (p := ⟨b, off + i, none⟩) h2).trans c, r⟩
set_option maxHeartbeats 1000000 in
theorem open_any {w : World} {a : Option Addr} {n cap : Nat} (h : CodeAt w a n) :
 Calls Tryz.prog 23 #[.slice a n cap] w fun e w' => ∃ g, e = .returned (.pointer (some ⟨g, 0, none⟩)) ∧ w.heap.size ≤ g ∧ RdAt w' g a n cap ∧ Below w.heap.size w w' := by
 have h' : Hid (CodeAt w a n) := h
 clear h
 go_enter Tryz.func23, Tryz.ntmps23
 go_wp2_with fail
 go_ret
 refine ⟨w.heap.size, rfl, Nat.le_refl _, ⟨h'.out.1, 0, Nat.zero_le _, Box.new w [.slice a n cap, .int .i64 0] _, ?_⟩, (Below.refl _ _).alloc (Nat.le_refl _) _⟩
 intro h0
 obtain ⟨b, off, e, h2, h3⟩ := h'.out.2 h0
 refine ⟨b, off, e, h2, fun i hi => ?_⟩
 obtain ⟨x, c, r⟩ := h3 i hi
 exact ⟨x, (((Below.refl w.heap.size w).alloc (Nat.le_refl _) _).cell (p := ⟨b, off + i, none⟩) h2).trans c, r⟩
end Go.Proofs.YtdnembnlomnceaaGreat
namespace Go.Proofs.YtdnembnlomnceaaGreat
open Go.RowKit
theorem grown_on {a b c : World} {g : Nat} (h1 : a.grownBy b (some g)) (h2 : b.grownBy c (some g)) : a.grownBy c (some g) :=
 ⟨h2.os.trans h1.os, h2.tape.trans h1.tape, h2.output.trans h1.output, Nat.le_trans h1.size h2.size, fun b q e => (h2.block b (Nat.lt_of_lt_of_le q h1.size) e).trans (h1.block b q e)⟩
set_option maxHeartbeats 1000000 in
theorem word_any {w : World} {g : Nat} {a : Option Addr} {n cap : Nat} (h : RdAt w g a n cap) :
 Calls Tryz.prog 107 #[.pointer (some ⟨g, 0, none⟩)] w fun e w' => ∃ v : Int, e = .returned (.int .u64 v) ∧ 0 ≤ v ∧ v ≤ 18446744073709551615 ∧ RdAt w' g a n cap ∧ w.grownBy w' (some g) := by
 have h' : Hid (RdAt w g a n cap) := h
 clear h
 go_enter Tryz.func107, Tryz.ntmps107
 go_wp2_with fail
 go_loopw [3, 4] (fun x i wr => ∃ (j : Nat) (v : Int), j ≤ 8 ∧ i = .int .i64 j ∧ x = .int .u64 v ∧ 0 ≤ v ∧ v ≤ 18446744073709551615 ∧ Hid (RdAt wr g a n cap) ∧ Hid (w.grownBy wr (some g))) (fun _ i _ => 8 - (intOf i).toNat)
 case atStart => exact ⟨0, 0, by omega, rfl, rfl, by omega, by omega, h', grown_refl _ _⟩
 case round =>
  obtain ⟨j, v, hj, rfl, rfl, v0, v1, hr, hg⟩ := hrel
  by_cases hlt : j < 8
  · have hlt' : (j : Int) < 8 := by omega
    go_wp2_with fail
    refine (next_any hr.out).mono ?_
    rintro e w1 ⟨u, rfl, u0, u1, hr1, hg1⟩
    have hr1' : Hid (RdAt w1 g a n cap) := hr1
    have hg1' : Hid (wr.grownBy w1 (some g)) := hg1
    clear hr1 hg1
    go_wp2_with fail
    go_roundw
    case rel => exact ⟨j + 1, _, by omega, by go_num, rfl, bits_lo_u64 _ _ _, bits_hi_u64 _ _ _, hr1', grown_on hg.out hg1'.out⟩
    case measure => simp [intOf]; omega
  · go_wp2_with fail
    go_ret
    exact ⟨v, rfl, v0, v1, hr.out, hg.out⟩
set_option maxHeartbeats 2000000 in
theorem near_any {w : World} {g : Nat} {a : Option Addr} {n cap : Nat} (h : RdAt w g a n cap) (lo hi : Int) (h1 : InI lo) (h2 : InI hi) (h3 : 0 ≤ hi - lo) (h4 : hi - lo ≤ 1000000000000) :
 Calls Tryz.prog 84 #[.pointer (some ⟨g, 0, none⟩), .int .i64 lo, .int .i64 hi] w fun e w' => ∃ v : Int, e = .returned (.int .i64 v) ∧ (lo ≤ v ∧ v ≤ hi) ∧ RdAt w' g a n cap ∧ w.grownBy w' (some g) := by
 have h' : Hid (RdAt w g a n cap) := h
 unfold InI at h1 h2
 clear h
 go_enter Tryz.func84, Tryz.ntmps84
 go_wp2_with fail
 refine (below_any h'.out 8 (by omega) (by omega)).mono ?_
 rintro e w1 ⟨v, rfl, v0, v1, hr1, hg1⟩
 have hr1' : Hid (RdAt w1 g a n cap) := hr1
 have hg1' : Hid (w.grownBy w1 (some g)) := hg1
 clear hr1 hg1
 by_cases z0 : v = 0
 · subst z0
   go_wp2_with fail
   go_ret
   exact ⟨lo, rfl, by omega, hr1'.out, hg1'.out⟩
 by_cases z1 : v = 1
 · subst z1
   go_wp2_with fail
   go_ret
   exact ⟨hi, rfl, by omega, hr1'.out, hg1'.out⟩
 have hlt : ¬ hi < lo := by omega
 have hs : IntKind.i64.wrap (hi - lo) = hi - lo := by rw [IntKind.wrap_i64]; omega
 have hs2 : IntKind.i64.wrap (hi - lo + 1) = hi - lo + 1 := by rw [IntKind.wrap_i64]; omega
 go_wp2_with fail
 refine (word_any hr1'.out).mono ?_
 rintro e w2 ⟨x, rfl, x0, x1, hr2, hg2⟩
 have hr2' : Hid (RdAt w2 g a n cap) := hr2
 have hg2' : Hid (w.grownBy w2 (some g)) := grown_on hg1'.out hg2
 clear hr2 hg2
 have hnz : ¬ hi - lo + 1 = 0 := by omega
 go_wp2_with fail
 go_ret
 refine ⟨_, rfl, ?_, hr2'.out, hg2'.out⟩
 have q0 := Int.emod_nonneg (x / 2) hnz
 have q1 := Int.emod_lt_of_pos (x / 2) (show 0 < hi - lo + 1 by omega)
 generalize x / 2 % (hi - lo + 1) = y at q0 q1
 have e1 : wrap64 y = y := by unfold wrap64; omega
 have e2 : wrap64 (lo + y) = lo + y := by unfold wrap64; omega
 rw [e1, e2]
 omega
set_option maxHeartbeats 2000000 in
theorem off_any {w : World} {g : Nat} {a : Option Addr} {n cap : Nat} (h : RdAt w g a n cap) (lo hi : Int) (h1 : -9223372036854775808 < lo) (h2 : hi < 9223372036854775807) (h3 : 0 ≤ hi - lo) (h4 : hi - lo ≤ 1000000000000) :
 Calls Tryz.prog 46 #[.pointer (some ⟨g, 0, none⟩), .int .i64 lo, .int .i64 hi] w fun e w' => ∃ v : Int, e = .returned (.int .i64 v) ∧ InI v ∧ RdAt w' g a n cap ∧ w.grownBy w' (some g) := by
 have h' : Hid (RdAt w g a n cap) := h
 clear h
 go_enter Tryz.func46, Tryz.ntmps46
 go_wp2_with fail
 refine (once_any h'.out 24 (by omega) (by omega)).mono ?_
 rintro e w1 ⟨b, rfl, hr1, hg1⟩
 have hr1' : Hid (RdAt w1 g a n cap) := hr1
 have hg1' : Hid (w.grownBy w1 (some g)) := hg1
 clear hr1 hg1
 cases b with
 | false =>
  go_wp2_with fail
  refine (near_any hr1'.out lo hi (by unfold InI; omega) (by unfold InI; omega) h3 h4).mono ?_
  rintro e w2 ⟨v, rfl, hv, hr2, hg2⟩
  have hr2' : Hid (RdAt w2 g a n cap) := hr2
  have hg2' : Hid (w.grownBy w2 (some g)) := grown_on hg1'.out hg2
  clear hr2 hg2
  go_wp2_with fail
  go_ret
  exact ⟨v, rfl, by unfold InI; omega, hr2'.out, hg2'.out⟩
 | true =>
  have e1 : IntKind.i64.wrap (lo - 1) = lo - 1 := by rw [IntKind.wrap_i64]; omega
  have e2 : IntKind.i64.wrap (hi + 1) = hi + 1 := by rw [IntKind.wrap_i64]; omega
  go_wp2_with fail
  have hbX : Hid (Box (w1.alloc (.cells #[.int .i64 (lo - 1), .int .i64 (hi + 1), .int .i64 (-9223372036854775808), .int .i64 9223372036854775807] 2)) w1.heap.size [.int .i64 (lo - 1), .int .i64 (hi + 1), .int .i64 (-9223372036854775808), .int .i64 9223372036854775807] 2) := Box.new w1 _ _
  have hrA : Hid (RdAt (w1.alloc (.cells #[.int .i64 (lo - 1), .int .i64 (hi + 1), .int .i64 (-9223372036854775808), .int .i64 9223372036854775807] 2)) g a n cap) := hr1'.out.below ((Below.refl _ _).alloc (Nat.le_refl _) _)
  have hgA : Hid (w.grownBy (w1.alloc (.cells #[.int .i64 (lo - 1), .int .i64 (hi + 1), .int .i64 (-9223372036854775808), .int .i64 9223372036854775807] 2)) (some g)) := grown_on hg1'.out (grown_of_below ((Below.refl _ _).alloc (Nat.le_refl _) _) _)
  have hlt := hr1'.out.lt
  refine (below_any hrA.out 4 (by omega) (by omega)).mono ?_
  rintro e w2 ⟨v, rfl, v0, v1, hr2, hg2⟩
  have bx2 : Hid (Box w2 w1.heap.size [.int .i64 (lo - 1), .int .i64 (hi + 1), .int .i64 (-9223372036854775808), .int .i64 9223372036854775807] 2) := box_other hbX.out (by omega) hg2
  have hr2' : Hid (RdAt w2 g a n cap) := hr2
  have hg2' : Hid (w.grownBy w2 (some g)) := grown_on hgA.out hg2
  clear hr2 hg2
  obtain ⟨u, hu, hI⟩ : ∃ u : Int, w2.cell? ⟨w1.heap.size, v.toNat, none⟩ = some (.int .i64 u) ∧ InI u := by
   obtain ⟨k, rfl⟩ : ∃ k : Nat, v = k := ⟨v.toNat, by omega⟩
   match k, v1 with
   | 0, _ => exact ⟨_, bx2.out.cell 0 rfl, by unfold InI; omega⟩
   | 1, _ => exact ⟨_, bx2.out.cell 1 rfl, by unfold InI; omega⟩
   | 2, _ => exact ⟨_, bx2.out.cell 2 rfl, by unfold InI; omega⟩
   | 3, _ => exact ⟨_, bx2.out.cell 3 rfl, by unfold InI; omega⟩
   | k + 4, h => omega
  go_wp2_with fail
  go_ret
  exact ⟨u, rfl, hI, hr2'.out, hg2'.out⟩
end Go.Proofs.YtdnembnlomnceaaGreat
