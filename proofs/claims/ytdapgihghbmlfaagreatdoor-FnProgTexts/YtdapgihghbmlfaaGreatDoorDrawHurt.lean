/- A text that is hurt: some text, not too long. -/
import Derived.Test.YtdapgihghbmlfaaGreatDoorDraws
import Derived.Test.YtdapgihghbmlfaaGreatDoorTakeLit
import Derived.Deep.QuietTactic
import Derived.BigQuiet
import Derived.Laws.IdiomStrings
namespace Go.Proofs.YtdapgihghbmlfaaGreatDoor
open Go.RowKit
theorem d_slice_to (s : ByteArray) (j : Nat) (hj : j ≤ s.size) (w : World) :
    (Instr.slice 9 (.string s) none (some (.int .i64 j)) none).run Tryz.prog w = .ok (.string (s.extract 0 j)) w := by
  have := run_slice_string_h (P := Tryz.prog) w 9 s Tryz.underlying9 .i64 j (by omega) (by omega)
  simpa using this
theorem d_slice_from (s : ByteArray) (i : Nat) (hi : i ≤ s.size) (w : World) :
    (Instr.slice 9 (.string s) (some (.int .i64 i)) none none).run Tryz.prog w = .ok (.string (s.extract i s.size)) w := by
  have := run_slice_string_l (P := Tryz.prog) w 9 s Tryz.underlying9 .i64 i (by omega) (by omega)
  simpa using this
def hurt4 : List ByteArray := [⟨#[60]⟩, ⟨#[62]⟩, ⟨#[32]⟩, ⟨#[60, 97, 62, 60, 47, 97, 62]⟩]
def hurt5 : List ByteArray := [⟨#[60]⟩, ⟨#[62]⟩, ⟨#[47]⟩, ⟨#[97]⟩, ⟨#[32]⟩]
set_option maxHeartbeats 1000000 in
theorem hurt_any {w : World} {g : Nat} {a : Option Addr} {n cap : Nat} (h : RdAt w g a n cap) (s : ByteArray) (hs : s.size ≤ 1048576) :
    Calls Tryz.prog 26 #[.pointer (some ⟨g, 0, none⟩), .string s] w fun e w' => ∃ t : ByteArray, e = .returned (.string t) ∧ t.size ≤ s.size + 7 ∧ RdAt w' g a n cap ∧ w.grownBy w' (some g) := by
  have h' : Hid (RdAt w g a n cap) := h
  have hlt := h.lt
  clear h
  go_enter Tryz.func26, Tryz.ntmps26
  go_wp2_with fail
  refine (below_any h'.out 6 (by omega) (by omega)).mono ?_
  rintro e w1 ⟨v, rfl, v0, v1, hr1, hg1⟩
  have hr1' : Hid (RdAt w1 g a n cap) := hr1
  have hg1' : Hid (w.grownBy w1 (some g)) := hg1
  have hlt1 := hr1.lt
  clear hr1 hg1
  by_cases e1 : v = 1
  · subst e1
    go_wp2_with fail
    refine (below_any hr1'.out _ (by omega) (by omega)).mono ?_
    rintro e w2 ⟨u, rfl, u0, u1, hr2, hg2⟩
    have hr2' : Hid (RdAt w2 g a n cap) := hr2
    have hg2' : Hid (w.grownBy w2 (some g)) := hg1'.out.trans hg2
    clear hr2 hg2
    obtain ⟨k, rfl⟩ := Int.eq_ofNat_of_zero_le u0
    have hsl := d_slice_to s k (by omega) w2
    have hsz : Hid ((s.extract 0 k).size ≤ s.size + 7) := by show _ ≤ _; rw [ByteArray.size_extract]; omega
    go_wp2_with fail
    go_ret
    exact ⟨_, rfl, hsz.out, hr2'.out, hg2'.out⟩
  by_cases e2 : v = 2
  · subst e2
    by_cases hp : (0 : Int) < (s.size : Int)
    · go_wp2_with fail
      refine (below_any hr1'.out _ (by omega) (by omega)).mono ?_
      rintro e w2 ⟨u, rfl, u0, u1, hr2, hg2⟩
      have hr2' : Hid (RdAt w2 g a n cap) := hr2
      have hg2' : Hid (w.grownBy w2 (some g)) := hg1'.out.trans hg2
      have hlt2 := hr2.lt
      clear hr2 hg2
      obtain ⟨k, rfl⟩ := Int.eq_ofNat_of_zero_le u0
      have hsl : ∀ w, (Instr.slice 9 (.string s) none (some (.int .i64 k)) none).run Tryz.prog w = .ok (.string (s.extract 0 k)) w := d_slice_to s k (by omega)
      have hsl2 : ∀ w, (Instr.slice 9 (.string s) (some (.int .i64 ((k : Int) + 1))) none none).run Tryz.prog w = .ok (.string (s.extract (k + 1) s.size)) w := fun w => by have := d_slice_from s (k + 1) (by omega) w; simpa using this
      have hz1 : (s.extract 0 k).size = k := by rw [ByteArray.size_extract]; omega
      have hz2 : (s.extract (k + 1) s.size).size = s.size - (k + 1) := by rw [ByteArray.size_extract]; omega
      have hwk : IntKind.i64.wrap ((k : Int) + 1) = (k : Int) + 1 := by rw [IntKind.wrap_i64]; omega
      have hk1 : (0 : Int) ≤ (k : Int) + 1 := by omega
      have hk2 : (k : Int) + 1 ≤ (s.size : Int) := by omega
      generalize s.extract 0 k = sA at hsl hz1
      generalize s.extract (k + 1) s.size = sB at hsl2 hz2
      have hz1' : Hid (sA.size = k) := hz1
      have hz2' : Hid (sB.size = s.size - (k + 1)) := hz2
      clear hz1 hz2
      go_wp2_with fail
      refine wp_region_held_drew (S := fun w' => True) (by kernel_rfl) trivial (fun hHeld => ?_)
      refine tq (i := 0) (d := 26) ?_
      simp only [sz, ss]
      refine tq (i := 1) (d := 27) ?_
      simp only [sz, ss]
      refine tq (i := 2) (d := 28) ?_
      simp only [sz, ss]
      refine tq (i := 4) (d := 30) ?_
      simp only [sz, ss]
      refine tq (i := 9) (d := 35) ?_
      simp only [sz, ss]
      refine tq (i := 10) (d := 36) ?_
      simp only [sz, ss]
      refine tq (i := 11) (d := 37) ?_
      simp only [sz, ss]
      refine tq (i := 12) (d := 38) ?_
      simp only [sz, ss]
      refine wpAnyH_ready (rs := [3, 5]) (by kernel_rfl) (by simp) ?_
      refine (AllReadyH.cons rfl (fun K hK => ?_) (AllReadyH.cons rfl (fun K hK => ?_) AllReadyH.nil))
      · go_simp
        refine hK.out _ _ trivial (fun hHeld => ?_)
        clear hK K
        refine wpAnyH_ready (rs := [5]) (by kernel_rfl) (by simp) ?_
        refine AllReadyH.cons rfl (fun K hK => ?_) AllReadyH.nil
        go_simp
        refine (below_any (by exact RdAt.below (w := w2) hr2'.out ((Below.drew (Below.refl _ _)).alloc (Nat.le_refl _) _)) 5 (by omega) (by omega)).mono ?_
        rintro e w3 ⟨u, rfl, u0, u1, hr3, hg3⟩
        have hr3' : Hid (RdAt w3 g a n cap) := hr3
        have hg3' : Hid (w.grownBy w3 (some g)) := hg2'.out.trans ((grown_of_below (w := w2) ((Below.drew (Below.refl _ _)).alloc (Nat.le_refl _) (.cells #[.string ⟨#[60]⟩, .string ⟨#[62]⟩, .string ⟨#[47]⟩, .string ⟨#[97]⟩, .string ⟨#[32]⟩] 9)) _).trans hg3)
        have bx3 : Hid (Box w3 w2.heap.size (hurt5.map Value.string) 9) := box_other (Box.new w2.drew (hurt5.map Value.string) 9) (by show w2.heap.size ≠ g; omega) hg3
        obtain ⟨k', rfl⟩ := Int.eq_ofNat_of_zero_le u0
        have hk : k' < hurt5.length := by show k' < 5; omega
        have hk5 : (k' : Int) < 5 := by omega
        clear hr3 hg3
        refine hK.out _ _ trivial (fun hHeld => ?_)
        clear hK K
        refine tq (i := 6) (d := 32) ?_
        simp only [sz, ss]
        refine wpAnyH_ready (rs := [7]) (by kernel_rfl) (by simp) ?_
        refine AllReadyH.cons rfl (fun K hK => ?_) AllReadyH.nil
        have hc := box_str bx3.out k' hk
        have hsz : hurt5[k'].size ≤ 1 := mem_le (by decide) k' hk
        have hlit : [Value.string ⟨#[60]⟩, Value.string ⟨#[62]⟩, Value.string ⟨#[47]⟩, Value.string ⟨#[97]⟩, Value.string ⟨#[32]⟩][k']? = some (.string hurt5[k']) := by show (hurt5.map Value.string)[k']? = _; rw [List.getElem?_map, List.getElem?_eq_getElem hk]; rfl
        generalize hurt5[k'] = qq at hc hsz hlit
        have hd1 : ¬ 9223372036854775807 < sA.size + qq.size := by have := hz1'.out; omega
        have hd2 : ¬ 9223372036854775807 < sA.size + qq.size + sB.size := by have := hz1'.out; have := hz2'.out; omega
        go_simp
        refine hK.out _ _ trivial (fun hHeld => ?_)
        clear hK K
        refine tq (i := 8) (d := 34) ?_
        simp only [sz, ss]
        refine tq (i := 13) (d := 39) ?_
        simp only [sz, ss]
        refine tq (i := 14) (d := 4) ?_
        simp only [sz, ss]
        refine wpAnyH_done (by kernel_rfl) ?_ _
        go_wp2_with fail
        go_ret
        exact ⟨_, rfl, by rw [ByteArray.size_append, ByteArray.size_append]; have := hz1'.out; have := hz2'.out; omega, hr3'.out, hg3'.out⟩
      · go_simp
        refine (below_any (by exact hr2'.out) 5 (by omega) (by omega)).mono ?_
        rintro e w3 ⟨u, rfl, u0, u1, hr3, hg3⟩
        have hr3' : Hid (RdAt w3 g a n cap) := hr3
        have hg3' : Hid (w.grownBy w3 (some g)) := hg2'.out.trans ((grown_of_below (w := w2) (Below.drew (Below.refl _ _)) _).trans hg3)
        obtain ⟨k', rfl⟩ := Int.eq_ofNat_of_zero_le u0
        have hk : k' < hurt5.length := by show k' < 5; omega
        have hk5 : (k' : Int) < 5 := by omega
        clear hr3 hg3
        refine hK.out _ _ trivial (fun hHeld => ?_)
        clear hK K
        refine wpAnyH_ready (rs := [3]) (by kernel_rfl) (by simp) ?_
        refine AllReadyH.cons rfl (fun K hK => ?_) AllReadyH.nil
        go_simp
        refine hK.out _ _ trivial (fun hHeld => ?_)
        clear hK K
        refine tq (i := 6) (d := 32) ?_
        simp only [sz, ss]
        refine wpAnyH_ready (rs := [7]) (by kernel_rfl) (by simp) ?_
        refine AllReadyH.cons rfl (fun K hK => ?_) AllReadyH.nil
        have hc := box_str (Box.new w3 (hurt5.map Value.string) 9) k' hk
        have hsz : hurt5[k'].size ≤ 1 := mem_le (by decide) k' hk
        have hlit : [Value.string ⟨#[60]⟩, Value.string ⟨#[62]⟩, Value.string ⟨#[47]⟩, Value.string ⟨#[97]⟩, Value.string ⟨#[32]⟩][k']? = some (.string hurt5[k']) := by show (hurt5.map Value.string)[k']? = _; rw [List.getElem?_map, List.getElem?_eq_getElem hk]; rfl
        generalize hurt5[k'] = qq at hc hsz hlit
        have hd1 : ¬ 9223372036854775807 < sA.size + qq.size := by have := hz1'.out; omega
        have hd2 : ¬ 9223372036854775807 < sA.size + qq.size + sB.size := by have := hz1'.out; have := hz2'.out; omega
        go_simp
        refine hK.out _ _ trivial (fun hHeld => ?_)
        clear hK K
        refine tq (i := 8) (d := 34) ?_
        simp only [sz, ss]
        refine tq (i := 13) (d := 39) ?_
        simp only [sz, ss]
        refine tq (i := 14) (d := 4) ?_
        simp only [sz, ss]
        refine wpAnyH_done (by kernel_rfl) ?_ _
        go_wp2_with fail
        go_ret
        exact ⟨_, rfl, by rw [ByteArray.size_append, ByteArray.size_append]; have := hz1'.out; have := hz2'.out; omega, (RdAt.below hr3'.out ((Below.refl _ _).alloc (Nat.le_refl _) _)), (hg3'.out.trans (grown_of_below ((Below.refl w3.heap.size w3).alloc (Nat.le_refl _) (.cells #[.string ⟨#[60]⟩, .string ⟨#[62]⟩, .string ⟨#[47]⟩, .string ⟨#[97]⟩, .string ⟨#[32]⟩] 9)) _))⟩
    · go_wp2_with fail
      go_ret
      exact ⟨_, rfl, by omega, hr1'.out, hg1'.out⟩
  by_cases e3 : v = 3
  · subst e3
    have hb2 : Hid (Below w1.heap.size w1 (w1.alloc (.cells #[.string ⟨#[60]⟩, .string ⟨#[62]⟩, .string ⟨#[32]⟩, .string ⟨#[60, 97, 62, 60, 47, 97, 62]⟩] 9))) := (Below.refl _ _).alloc (Nat.le_refl _) _
    have bx2 : Hid (Box (w1.alloc (.cells #[.string ⟨#[60]⟩, .string ⟨#[62]⟩, .string ⟨#[32]⟩, .string ⟨#[60, 97, 62, 60, 47, 97, 62]⟩] 9)) w1.heap.size (hurt4.map Value.string) 9) := Box.new w1 _ _
    go_wp2_with fail
    refine (below_any (RdAt.below hr1'.out hb2.out) 4 (by omega) (by omega)).mono ?_
    rintro e w2 ⟨u, rfl, u0, u1, hr2, hg2⟩
    have hr2' : Hid (RdAt w2 g a n cap) := hr2
    have hg2' : Hid (w.grownBy w2 (some g)) := hg1'.out.trans ((grown_of_below hb2.out _).trans hg2)
    have bx3 : Hid (Box w2 w1.heap.size (hurt4.map Value.string) 9) := box_other bx2.out (by omega) hg2
    obtain ⟨k, rfl⟩ := Int.eq_ofNat_of_zero_le u0
    have hk : k < hurt4.length := by show k < 4; omega
    have hc := box_str bx3.out k hk
    have hsz : hurt4[k].size ≤ 7 := mem_le (by decide) k hk
    generalize hurt4[k] = q at hc hsz
    have hd : ¬ 9223372036854775807 < s.size + q.size := by omega
    have hsz' : Hid (q.size ≤ 7) := hsz
    clear hr2 hg2 hsz
    go_wp2_with fail
    go_ret
    exact ⟨_, rfl, by rw [ByteArray.size_append]; have := hsz'.out; omega, hr2'.out, hg2'.out⟩
  go_wp2_with fail
  go_ret
  exact ⟨_, rfl, by omega, hr1'.out, hg1'.out⟩
end Go.Proofs.YtdapgihghbmlfaaGreatDoor
