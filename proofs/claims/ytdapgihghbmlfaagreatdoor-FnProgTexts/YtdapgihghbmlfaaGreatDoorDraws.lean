/- The reader by which the specification draws: what it tells lies within its bounds; only its own block turns. -/
import Derived.Test.YtdapgihghbmlfaaGreatDoorSeq
import Derived.Test.YtdapgihghbmlfaaGreatDoorRows
import Derived.WalkKit
import Derived.Deep.QuietTactic
import Derived.BigQuiet
import Derived.Maps.AppendAt
namespace Go.Proofs.YtdapgihghbmlfaaGreatDoor
open Go.RowKit
/-- n bytes lie in memory, ahead of the block g -/
def ByteRow (w : World) (g : Nat) (a : Option Addr) (n : Nat) : Prop :=
  0 < n → ∃ b off, a = some ⟨b, off, none⟩ ∧ b < g ∧ ∀ i, i < n → ∃ x : Int, w.cell? ⟨b, off + i, none⟩ = some (.int .u8 x) ∧ 0 ≤ x ∧ x ≤ 255
/-- a reader lies in the block g -/
def RdAt (w : World) (g : Nat) (a : Option Addr) (n cap : Nat) : Prop :=
  n ≤ 1048576 ∧ ∃ p : Nat, p ≤ n ∧ Box w g [.slice a n cap, .int .i64 p] 79 ∧ ByteRow w g a n
theorem ByteRow.keep {w w' : World} {g : Nat} {a : Option Addr} {n : Nat} (h : ByteRow w g a n) (hk : ∀ b, b < g → w'.heap[b]? = w.heap[b]?) : ByteRow w' g a n := by
  intro h0
  obtain ⟨b, off, e, h1, h3⟩ := h h0
  refine ⟨b, off, e, h1, fun i hi => ?_⟩
  obtain ⟨x, c, r⟩ := h3 i hi
  exact ⟨x, by rw [World.cell?_of_block (w := w) (w' := w') (hk b h1)]; exact c, r⟩
theorem RdAt.keep {w w' : World} {g : Nat} {a : Option Addr} {n cap : Nat} (h : RdAt w g a n cap) (hk : ∀ b, b ≤ g → w'.heap[b]? = w.heap[b]?) : RdAt w' g a n cap := by
  obtain ⟨hn, p, hp, hx, hr⟩ := h
  exact ⟨hn, p, hp, (hk g (Nat.le_refl _)).trans hx, hr.keep (fun b hb => hk b (Nat.le_of_lt hb))⟩
theorem RdAt.below {w w' : World} {g : Nat} {a : Option Addr} {n cap : Nat} (h : RdAt w g a n cap) (hb : Below w.heap.size w w') : RdAt w' g a n cap := by
  have hlt : g < w.heap.size := by obtain ⟨_, _, _, hx, _⟩ := h; exact hx.lt
  exact h.keep (fun b q => hb.block b (by omega))
theorem RdAt.lt {w : World} {g : Nat} {a : Option Addr} {n cap : Nat} (h : RdAt w g a n cap) : g < w.heap.size := by
  obtain ⟨_, _, _, hx, _⟩ := h; exact hx.lt
theorem grown_refl (w : World) (r : Option Nat) : w.grownBy w r := ⟨rfl, rfl, rfl, Nat.le_refl _, fun _ _ _ => rfl⟩
theorem grown_of_below {w w' : World} (hb : Below w.heap.size w w') (r : Option Nat) : w.grownBy w' r := ⟨hb.os, hb.tape, hb.output, hb.size, fun b h _ => hb.block b h⟩
/-- what lay ahead of the reader is as it was -/
theorem below_grown {w0 w w' : World} {g : Nat} (hb : Below w0.heap.size w0 w) (hg : w0.heap.size ≤ g) (h : w.grownBy w' (some g)) : Below w0.heap.size w0 w' :=
  hb.grown h hb.size fun k hk => by injection hk with e; omega
theorem grown_set {w : World} {g i : Nat} (v : Value) : w.grownBy (w.setCell ⟨g, i, none⟩ v) (some g) :=
  ⟨rfl, rfl, rfl, by simp [World.setCell], fun b _ hne => set_other (fun e => hne (by rw [e])) v⟩
theorem grown_step {w : World} {g i q r : Nat} (v : Value) : w.grownBy (((w.drewN q).setCell ⟨g, i, none⟩ v).drewN r) (some g) :=
  ⟨rfl, rfl, rfl, by simp [World.setCell, World.drewN], fun b _ hne => set_other (w := w.drewN q) (fun e => hne (by rw [e])) v⟩
theorem grown_drew {w : World} {q : Nat} {r : Option Nat} : w.grownBy (w.drewN q) r := ⟨rfl, rfl, rfl, Nat.le_refl _, fun _ _ _ => rfl⟩
theorem rd_step {w : World} {g : Nat} {a : Option Addr} {n cap p : Nat} (hn : n ≤ 1048576) (hp : p + 1 ≤ n) (hx : Box w g [.slice a n cap, .int .i64 p] 79) (hr : ByteRow w g a n) : RdAt (w.setCell ⟨g, 1, none⟩ (.int .i64 ((p : Int) + 1))) g a n cap := by
  refine ⟨hn, p + 1, hp, ?_, hr.keep (fun b hb => set_other (by omega) _)⟩
  have := Box.set (i := 1) hx (.int .i64 ((p : Int) + 1))
  exact this
set_option maxHeartbeats 1000000 in
theorem next_any {w : World} {g : Nat} {a : Option Addr} {n cap : Nat} (h : RdAt w g a n cap) :
    Calls Tryz.prog 61 #[.pointer (some ⟨g, 0, none⟩)] w fun e w' => ∃ v : Int, e = .returned (.int .i64 v) ∧ 0 ≤ v ∧ v ≤ 255 ∧ RdAt w' g a n cap ∧ w.grownBy w' (some g) := by
  have h' : Hid (RdAt w g a n cap) := h
  obtain ⟨hn, p, hp, hx, hr⟩ := h
  have hx' : Hid (Box w g [.slice a n cap, .int .i64 p] 79) := hx
  have c0 := hx.cell 0 rfl
  have c1 := hx.cell 1 rfl
  have f1 := hx.unfrozen 1
  have hr' : Hid (ByteRow w g a n) := hr
  clear hr hx
  by_cases hlt : p < n
  · obtain ⟨b, off, rfl, hbg, hc⟩ := hr'.out (by omega)
    obtain ⟨x, hcx, hx0, hx1⟩ := hc p hlt
    clear hc
    have hle : decide ((n : Int) ≤ (p : Int)) = false := by simpa using hlt
    go_enter Tryz.func61, Tryz.ntmps61
    go_wp2_with fail
    go_quiet (fail)
    have hst : Hid (RdAt ((w.drewN nq).setCell ⟨g, 1, none⟩ (.int .i64 ((p : Int) + 1))) g (some ⟨b, off, none⟩) n cap) := rd_step (w := w.drewN nq) hn hlt hx'.out hr'.out
    have bx1 : Hid (Box ((w.drewN nq).setCell ⟨g, 1, none⟩ (.int .i64 ((p : Int) + 1))) g [.slice (some ⟨b, off, none⟩) n cap, .int .i64 ((p : Int) + 1)] 79) := Box.set (w := w.drewN nq) (i := 1) hx'.out _
    have d0 := bx1.out.cell 0 rfl
    have d1 := bx1.out.cell 1 rfl
    have hcx2 : ((w.drewN nq).setCell ⟨g, 1, none⟩ (.int .i64 ((p : Int) + 1))).cell? ⟨b, off + p, none⟩ = some (.int .u8 x) := by
      rw [World.cell?_of_block (w := w) (set_other (w := w.drewN nq) (Nat.ne_of_lt hbg) _)]; exact hcx
    have hpn : (p : Int) < (n : Int) := by omega
    have hp0 : (0 : Int) ≤ (p : Int) := by omega
    have hsub : (p : Int) + 1 - 1 = (p : Int) := by omega
    go_wp2_with fail
    go_quiet (fail)
    go_wp2_with fail
    go_ret
    exact ⟨x, rfl, hx0, hx1, hst.out, grown_step _⟩
  · have hle : (n : Int) ≤ (p : Int) := by omega
    go_enter Tryz.func61, Tryz.ntmps61
    go_wp2_with fail
    go_quiet (fail)
    go_wp2_with fail
    go_ret
    exact ⟨0, rfl, by omega, by omega, h'.out, grown_drew⟩
set_option maxHeartbeats 1000000 in
theorem below_any {w : World} {g : Nat} {a : Option Addr} {n cap : Nat} (h : RdAt w g a n cap) (m : Int) (h1 : 1 ≤ m) (h2 : m ≤ 16777216) :
    Calls Tryz.prog 44 #[.pointer (some ⟨g, 0, none⟩), .int .i64 m] w fun e w' => ∃ v : Int, e = .returned (.int .i64 v) ∧ 0 ≤ v ∧ v < m ∧ RdAt w' g a n cap ∧ w.grownBy w' (some g) := by
  have h' : Hid (RdAt w g a n cap) := h
  clear h
  by_cases hm1 : m ≤ 1
  · go_enter Tryz.func44, Tryz.ntmps44
    go_wp2_with fail
    go_ret
    exact ⟨0, rfl, by omega, by omega, h'.out, grown_refl _ _⟩
  have hz : ¬ m = 0 := by omega
  by_cases hm2 : m ≤ 256
  · go_enter Tryz.func44, Tryz.ntmps44
    go_wp2_with fail
    refine (next_any h'.out).mono ?_
    rintro e w1 ⟨v, rfl, v0, v1, hr1, hg1⟩
    have hr1' : Hid (RdAt w1 g a n cap) := hr1
    have hg1' : Hid (w.grownBy w1 (some g)) := hg1
    clear hr1 hg1
    go_wp2_with fail
    go_ret
    refine ⟨_, rfl, ?_, ?_, hr1'.out, hg1'.out⟩
    · exact Int.emod_nonneg _ hz
    · exact Int.emod_lt_of_pos _ (by omega)
  · go_enter Tryz.func44, Tryz.ntmps44
    go_wp2_with fail
    refine (next_any h'.out).mono ?_
    rintro e w1 ⟨v, rfl, v0, v1, hr1, hg1⟩
    have hr1' : Hid (RdAt w1 g a n cap) := hr1
    have hg1' : Hid (w.grownBy w1 (some g)) := hg1
    clear hr1 hg1
    go_wp2_with fail
    refine (next_any hr1'.out).mono ?_
    rintro e w2 ⟨v2, rfl, v20, v21, hr2, hg2⟩
    have hr2' : Hid (RdAt w2 g a n cap) := hr2
    have hg2' : Hid (w.grownBy w2 (some g)) := hg1'.out.trans hg2
    clear hr2 hg2
    go_wp2_with fail
    go_ret
    refine ⟨_, rfl, ?_, ?_, hr2'.out, hg2'.out⟩
    · exact Int.emod_nonneg _ hz
    · exact Int.emod_lt_of_pos _ (by omega)
set_option maxHeartbeats 1000000 in
theorem once_any {w : World} {g : Nat} {a : Option Addr} {n cap : Nat} (h : RdAt w g a n cap) (m : Int) (h1 : 1 ≤ m) (h2 : m ≤ 16777216) :
    Calls Tryz.prog 25 #[.pointer (some ⟨g, 0, none⟩), .int .i64 m] w fun e w' => ∃ v : Bool, e = .returned (.bool v) ∧ RdAt w' g a n cap ∧ w.grownBy w' (some g) := by
  have h' : Hid (RdAt w g a n cap) := h
  clear h
  go_enter Tryz.func25, Tryz.ntmps25
  go_wp2_with fail
  refine (below_any h'.out m h1 h2).mono ?_
  rintro e w1 ⟨v, rfl, v0, v1, hr1, hg1⟩
  have hr1' : Hid (RdAt w1 g a n cap) := hr1
  have hg1' : Hid (w.grownBy w1 (some g)) := hg1
  clear hr1 hg1
  go_wp2_with fail
  go_ret
  exact ⟨_, rfl, hr1'.out, hg1'.out⟩
/-- a row of texts: one of them -/
theorem box_str {w : World} {g : Nat} {ss : List ByteArray} {T : TypeId} (h : Box w g (ss.map Value.string) T) (k : Nat) (hk : k < ss.length) : w.cell? ⟨g, k, none⟩ = some (.string ss[k]) :=
  Box.cell h k (by rw [List.getElem?_map, List.getElem?_eq_getElem hk]; rfl)
theorem box_other {w w' : World} {g h : Nat} {cs : List Value} {T : TypeId} (hx : Box w h cs T) (hne : h ≠ g) (hg : w.grownBy w' (some g)) : Box w' h cs T :=
  (hg.block h hx.lt (fun e => hne (by injection e))).trans hx
theorem mem_le {ss : List ByteArray} {m : Nat} (h : (ss.all fun s => decide (s.size ≤ m)) = true) (k : Nat) (hk : k < ss.length) : ss[k].size ≤ m := by
  have := List.all_eq_true.1 h ss[k] (List.getElem_mem hk)
  simpa using this
/-- the code that is drawn by lies in memory -/
def CodeAt (w : World) (a : Option Addr) (n : Nat) : Prop :=
  n ≤ 1048576 ∧ (0 < n → ∃ b off, a = some ⟨b, off, none⟩ ∧ b < w.heap.size ∧ ∀ i, i < n → ∃ x : Int, w.cell? ⟨b, off + i, none⟩ = some (.int .u8 x) ∧ 0 ≤ x ∧ x ≤ 255)
theorem CodeAt.below {w w' : World} {a : Option Addr} {n : Nat} (h : CodeAt w a n) (hb : Below w.heap.size w w') : CodeAt w' a n := by
  refine ⟨h.1, fun h0 => ?_⟩
  obtain ⟨b, off, e, h2, h3⟩ := h.2 h0
  refine ⟨b, off, e, Nat.lt_of_lt_of_le h2 hb.size, fun i hi => ?_⟩
  obtain ⟨x, c, r⟩ := h3 i hi
  exact ⟨x, (hb.cell (p := ⟨b, off + i, none⟩) h2).trans c, r⟩
set_option maxHeartbeats 1000000 in
theorem open_any {w : World} {a : Option Addr} {n cap : Nat} (h : CodeAt w a n) :
    Calls Tryz.prog 23 #[.slice a n cap] w fun e w' => ∃ g, e = .returned (.pointer (some ⟨g, 0, none⟩)) ∧ w.heap.size ≤ g ∧ RdAt w' g a n cap ∧ Below w.heap.size w w' := by
  have h' : Hid (CodeAt w a n) := h
  clear h
  go_enter Tryz.func23, Tryz.ntmps23
  go_wp2_with fail
  go_ret
  refine ⟨w.heap.size, rfl, Nat.le_refl _, ⟨h'.out.1, 0, Nat.zero_le _, Box.new w [.slice a n cap, .int .i64 0] _, ?_⟩, (Below.refl _ _).alloc (Nat.le_refl _) _⟩
  intro h0
  obtain ⟨b, off, e, h2, h3⟩ := h'.out.2 h0
  refine ⟨b, off, e, h2, fun i hi => ?_⟩
  obtain ⟨x, c, r⟩ := h3 i hi
  exact ⟨x, (((Below.refl w.heap.size w).alloc (Nat.le_refl _) _).cell (p := ⟨b, off + i, none⟩) h2).trans c, r⟩
end Go.Proofs.YtdapgihghbmlfaaGreatDoor
