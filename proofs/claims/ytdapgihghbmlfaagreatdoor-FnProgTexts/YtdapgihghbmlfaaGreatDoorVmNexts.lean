/- Rows of depths in memory; what l13Need, l13Nexts and placesBehind return. -/
import Derived.Test.YtdapgihghbmlfaaGreatDoorVmDep
import Derived.Test.YtdapgihghbmlfaaGreatDoorVmInstr
import Derived.Test.YtdapgihghbmlfaaGreatDoorOwn
namespace Go.Proofs.YtdapgihghbmlfaaGreatDoor
open Go.RowKit
/-- these numbers lie at the head of a block that may be written -/
def DRow (w : World) (g : Nat) (xs : List Int) : Prop := ∃ cur : Array Value, w.heap[g]? = some (.cells cur 2 (0, 0)) ∧ ∀ i, (h : i < xs.length) → cur[i]? = some (.int .i64 xs[i])
theorem DRow.keep {w w' : World} {g : Nat} {xs : List Int} (h : DRow w g xs) (e : w'.heap[g]? = w.heap[g]?) : DRow w' g xs := by
  obtain ⟨c, h1, h2⟩ := h
  exact ⟨c, e.trans h1, h2⟩
theorem DRow.lt {w : World} {g : Nat} {xs : List Int} (h : DRow w g xs) : g < w.heap.size := by
  obtain ⟨c, h1, _⟩ := h
  exact (Array.getElem?_eq_some_iff.1 h1).1
theorem DRow.below {w w' : World} {g : Nat} {xs : List Int} (h : DRow w g xs) (hb : Below w.heap.size w w') : DRow w' g xs := h.keep (hb.block g h.lt)
theorem DRow.cell {w : World} {g : Nat} {xs : List Int} (h : DRow w g xs) {i : Nat} (hi : i < xs.length) : w.cell? ⟨g, i, none⟩ = some (.int .i64 (labAt xs i)) := by
  obtain ⟨c, h1, h2⟩ := h
  rw [blk_cell h1, h2 i hi, lab_get]
theorem DRow.unfrozen {w : World} {g : Nat} {xs : List Int} (h : DRow w g xs) (i : Nat) : w.frozen? ⟨g, i, none⟩ = false := by
  obtain ⟨c, h1, _⟩ := h
  exact blk_unfrozen h1 i
theorem DRow.set {w : World} {g : Nat} {xs : List Int} (h : DRow w g xs) (i : Nat) (hi : i < xs.length) (d : Int) : DRow (w.setCell ⟨g, i, none⟩ (.int .i64 d)) g (xs.set i d) := by
  obtain ⟨c, h1, h2⟩ := h
  refine ⟨c.setIfInBounds i (.int .i64 d), blk_set h1 _, fun j hj => ?_⟩
  simp only [List.length_set] at hj
  rw [Array.getElem?_setIfInBounds, List.getElem_set]
  by_cases e : i = j
  · subst e
    have : i < c.size := by
      rcases Nat.lt_or_ge i c.size with q | q
      · exact q
      · have := h2 i hi; rw [Array.getElem?_eq_none q] at this; cases this
    rw [if_pos rfl, if_pos this, if_pos rfl]
  · rw [if_neg e, if_neg e]; exact h2 j hj
theorem DRow.lab {w : World} {g : Nat} {xs : List Int} (h : DRow w g xs) {i : Nat} {v : Int} (hi : i < xs.length) (hv : labAt xs i = v) : w.cell? ⟨g, i, none⟩ = some (.int .i64 v) := by rw [← hv]; exact h.cell hi
theorem box_new1 (w : World) (ob : Obj) (cs : List Value) (T : TypeId) : Box ((w.alloc ob).alloc (.cells cs.toArray T)) (w.heap.size + 1) cs T := by
  have h := Box.new (w.alloc ob) cs T
  simpa using h
set_option maxHeartbeats 4000000 in
theorem l13Need_any (k : Int) (w : World) :
    Calls Tryz.prog 46 #[.int .i64 k] w fun e w' => e = .returned (.tuple #[.int .i64 (takesT k), .int .i64 (givesT k)]) ∧ w' = w := by
  by_cases h1 : k = 1
  · subst h1
    go_enter Tryz.func46, Tryz.ntmps46
    go_wp2
    go_ret2
    exact ⟨rfl, rfl⟩
  by_cases h2 : k = 2
  · subst h2
    go_enter Tryz.func46, Tryz.ntmps46
    go_wp2
    go_ret2
    exact ⟨rfl, rfl⟩
  by_cases h3 : k = 3
  · subst h3
    go_enter Tryz.func46, Tryz.ntmps46
    go_wp2
    go_ret2
    exact ⟨rfl, rfl⟩
  by_cases h7 : k = 7
  · subst h7
    go_enter Tryz.func46, Tryz.ntmps46
    go_wp2
    go_ret2
    exact ⟨rfl, rfl⟩
  by_cases h4 : k = 4
  · subst h4
    go_enter Tryz.func46, Tryz.ntmps46
    go_wp2
    go_ret2
    exact ⟨rfl, rfl⟩
  by_cases h13 : k = 13
  · subst h13
    go_enter Tryz.func46, Tryz.ntmps46
    go_wp2
    go_ret2
    exact ⟨rfl, rfl⟩
  by_cases h14 : k = 14
  · subst h14
    go_enter Tryz.func46, Tryz.ntmps46
    go_wp2
    go_ret2
    exact ⟨rfl, rfl⟩
  by_cases h11 : k = 11
  · subst h11
    go_enter Tryz.func46, Tryz.ntmps46
    go_wp2
    go_ret2
    exact ⟨rfl, rfl⟩
  by_cases h5 : k = 5
  · subst h5
    go_enter Tryz.func46, Tryz.ntmps46
    go_wp2
    go_ret2
    exact ⟨rfl, rfl⟩
  by_cases h6 : k = 6
  · subst h6
    go_enter Tryz.func46, Tryz.ntmps46
    go_wp2
    go_ret2
    exact ⟨rfl, rfl⟩
  by_cases h8 : k = 8
  · subst h8
    go_enter Tryz.func46, Tryz.ntmps46
    go_wp2
    go_ret2
    exact ⟨rfl, rfl⟩
  by_cases h9 : k = 9
  · subst h9
    go_enter Tryz.func46, Tryz.ntmps46
    go_wp2
    go_ret2
    exact ⟨rfl, rfl⟩
  by_cases h12 : k = 12
  · subst h12
    go_enter Tryz.func46, Tryz.ntmps46
    go_wp2
    go_ret2
    exact ⟨rfl, rfl⟩
  have H : Hid (takesT k = 0 ∧ givesT k = 0) := by
    refine ⟨?_, ?_⟩
    · unfold takesT; rw [if_neg (by omega), if_neg (by omega), if_neg (by omega)]
    · unfold givesT; rw [if_neg (by omega), if_neg (by omega), if_neg (by omega)]
  go_enter Tryz.func46, Tryz.ntmps46
  go_wp2
  go_ret2
  exact ⟨by rw [H.out.1, H.out.2]; rfl, rfl⟩
/-- what comes behind lies in a new row, or in none -/
def NextRow (w : World) (lo : Nat) (v : Value) (l : List Int) : Prop := ∃ a cap, v = .slice a l.length cap ∧ (0 < l.length → ∃ g, a = some ⟨g, 0, none⟩ ∧ lo ≤ g ∧ Box w g (l.map fun n => .int .i64 n) 2)
set_option maxHeartbeats 2000000 in
theorem placesBehind_any {w : World} {lo : Nat} {cs : List Value} {x : InstrD} (i : Int) (hi : 0 ≤ i) (hi2 : i ≤ 100) (hx : InstrAt w lo cs x) :
    Calls Tryz.prog 60 #[.agg cs.toArray, .int .i64 i] w fun e w' => (∃ v, e = .returned v ∧ NextRow w' w.heap.size v (nexts x i)) ∧ Below w.heap.size w w' := by
  obtain ⟨rfl, rKind, rN, rName, _⟩ := hx
  clear rKind rN rName
  have hwr : IntKind.i64.wrap (i + 1) = i + 1 := by simp [IntKind.wrap, IntKind.signed, IntKind.bits]; omega
  by_cases k15 : x.vKind = 15
  · have H : Hid (nexts x i = []) := by show _ = _; unfold nexts; simp [*]
    go_enter Tryz.func60, Tryz.ntmps60
    go_wp2_with fail
    go_ret
    exact ⟨⟨_, rfl, by rw [H.out]; exact ⟨none, 0, rfl, fun q => absurd q (by simp)⟩⟩, (Below.refl _ _).alloc (Nat.le_refl _) _⟩
  by_cases k10 : x.vKind = 10
  · have H : Hid (nexts x i = [x.vN]) := by show _ = _; unfold nexts; simp [*]
    go_enter Tryz.func60, Tryz.ntmps60
    go_wp2_with fail
    go_ret
    exact ⟨⟨_, rfl, by rw [H.out]; exact ⟨_, _, rfl, fun _ => ⟨_, rfl, by omega, by first | exact Box.new _ _ _ | exact box_new1 _ _ _ _⟩⟩⟩, ((Below.refl _ _).alloc (Nat.le_refl _) _).alloc (by simp) _⟩
  by_cases k11 : x.vKind = 11
  · have H : Hid (nexts x i = [i + 1, x.vN]) := by show _ = _; unfold nexts; simp [*]
    go_enter Tryz.func60, Tryz.ntmps60
    go_wp2_with fail
    go_ret
    exact ⟨⟨_, rfl, by rw [H.out]; exact ⟨_, _, rfl, fun _ => ⟨_, rfl, by omega, by first | exact Box.new _ _ _ | exact box_new1 _ _ _ _⟩⟩⟩, ((Below.refl _ _).alloc (Nat.le_refl _) _).alloc (by simp) _⟩
  have H : Hid (nexts x i = [i + 1]) := by show _ = _; unfold nexts; simp [*]
  go_enter Tryz.func60, Tryz.ntmps60
  go_wp2_with fail
  go_ret
  exact ⟨⟨_, rfl, by rw [H.out]; exact ⟨_, _, rfl, fun _ => ⟨_, rfl, by omega, by first | exact Box.new _ _ _ | exact box_new1 _ _ _ _⟩⟩⟩, ((Below.refl _ _).alloc (Nat.le_refl _) _).alloc (by simp) _⟩
set_option maxHeartbeats 2000000 in
theorem l13Nexts_any {w : World} {lo : Nat} {kp : Value} {p : List InstrD} (i : Nat) (hi : i < p.length) (hi2 : p.length ≤ 20) (hp : SeqAt 3 InstrAt w lo kp p) :
    Calls Tryz.prog 77 #[kp, .int .i64 (i : Int)] w fun e w' => (∃ v, e = .returned v ∧ NextRow w' w.heap.size v (nexts p[i] i)) ∧ Below w.heap.size w w' := by
  obtain ⟨a, cap, rfl, hm, hx⟩ := hp
  obtain ⟨b, off, rfl, hlo, hbw, hc⟩ := hx (by omega)
  obtain ⟨cs, hcl, lie, hr⟩ := hc i hi
  generalize p[i] = x at hr ⊢
  obtain ⟨rfl, rKind, rN, rName, _⟩ := hr
  have z0 := lie 0 (by simp)
  have z1 := lie 1 (by simp)
  simp only [List.getElem?_cons_zero, List.getElem?_cons_succ, Nat.add_zero] at z0 z1
  have hlt' : (i : Int) < (p.length : Int) := by omega
  clear rKind rN rName hc lie hcl hx hm
  have hwr : IntKind.i64.wrap ((i : Int) + 1) = (i : Int) + 1 := by simp [IntKind.wrap, IntKind.signed, IntKind.bits]; omega
  by_cases k15 : x.vKind = 15
  · have H : Hid (nexts x i = []) := by show _ = _; unfold nexts; simp [*]
    go_enter Tryz.func77, Tryz.ntmps77
    go_wp2_with fail
    go_ret
    exact ⟨⟨_, rfl, by rw [H.out]; exact ⟨none, 0, rfl, fun q => absurd q (by simp)⟩⟩, Below.refl _ _⟩
  by_cases k10 : x.vKind = 10
  · have H : Hid (nexts x i = [x.vN]) := by show _ = _; unfold nexts; simp [*]
    go_enter Tryz.func77, Tryz.ntmps77
    go_wp2_with fail
    go_ret
    exact ⟨⟨_, rfl, by rw [H.out]; exact ⟨_, _, rfl, fun _ => ⟨_, rfl, by omega, by first | exact Box.new _ _ _ | exact box_new1 _ _ _ _⟩⟩⟩, (Below.refl _ _).alloc (Nat.le_refl _) _⟩
  by_cases k11 : x.vKind = 11
  · have H : Hid (nexts x i = [(i : Int) + 1, x.vN]) := by show _ = _; unfold nexts; simp [*]
    go_enter Tryz.func77, Tryz.ntmps77
    go_wp2_with fail
    go_ret
    exact ⟨⟨_, rfl, by rw [H.out]; exact ⟨_, _, rfl, fun _ => ⟨_, rfl, by omega, by first | exact Box.new _ _ _ | exact box_new1 _ _ _ _⟩⟩⟩, (Below.refl _ _).alloc (Nat.le_refl _) _⟩
  have H : Hid (nexts x i = [(i : Int) + 1]) := by show _ = _; unfold nexts; simp [*]
  go_enter Tryz.func77, Tryz.ntmps77
  go_wp2_with fail
  go_ret
  exact ⟨⟨_, rfl, by rw [H.out]; exact ⟨_, _, rfl, fun _ => ⟨_, rfl, by omega, by first | exact Box.new _ _ _ | exact box_new1 _ _ _ _⟩⟩⟩, (Below.refl _ _).alloc (Nat.le_refl _) _⟩
end Go.Proofs.YtdapgihghbmlfaaGreatDoor
