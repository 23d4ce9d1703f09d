/- What DrawEscaped and DrawUnescaped tell: some text, not too long. -/
import Derived.Test.YtapjplecdfemeaaDoorDraws
import Derived.Test.YtapjplecdfemeaaDoorEscSpec
import Derived.Test.YtapjplecdfemeaaDoorTakeLit
namespace Go.Proofs.YtapjplecdfemeaaDoor
open Go.RowKit
/-- the code that is drawn by lies in memory -/
def CodeAt (w : World) (a : Option Addr) (n : Nat) : Prop :=
  n ≤ 1048576 ∧ (0 < n → ∃ b off, a = some ⟨b, off, none⟩ ∧ b < w.heap.size ∧ ∀ i, i < n → ∃ x : Int, w.cell? ⟨b, off + i, none⟩ = some (.int .u8 x) ∧ 0 ≤ x ∧ x ≤ 255)
theorem CodeAt.below {w w' : World} {a : Option Addr} {n : Nat} (h : CodeAt w a n) (hb : Below w.heap.size w w') : CodeAt w' a n := by
  refine ⟨h.1, fun h0 => ?_⟩
  obtain ⟨b, off, e, h2, h3⟩ := h.2 h0
  refine ⟨b, off, e, Nat.lt_of_lt_of_le h2 hb.size, fun i hi => ?_⟩
  obtain ⟨x, c, r⟩ := h3 i hi
  exact ⟨x, (hb.cell (p := ⟨b, off + i, none⟩) h2).trans c, r⟩
set_option maxHeartbeats 1000000 in
theorem open_any {w : World} {a : Option Addr} {n cap : Nat} (h : CodeAt w a n) :
    Calls Tryd.prog 33 #[.slice a n cap] w fun e w' => ∃ g, e = .returned (.pointer (some ⟨g, 0, none⟩)) ∧ w.heap.size ≤ g ∧ RdAt w' g a n cap ∧ Below w.heap.size w w' := by
  have h' : Hid (CodeAt w a n) := h
  clear h
  go_enter Tryd.func33, Tryd.ntmps33
  go_wp2_with fail
  go_ret
  refine ⟨w.heap.size, rfl, Nat.le_refl _, ⟨h'.out.1, 0, Nat.zero_le _, Box.new w [.slice a n cap, .int .i64 0] _, ?_⟩, (Below.refl _ _).alloc (Nat.le_refl _) _⟩
  intro h0
  obtain ⟨b, off, e, h2, h3⟩ := h'.out.2 h0
  refine ⟨b, off, e, h2, fun i hi => ?_⟩
  obtain ⟨x, c, r⟩ := h3 i hi
  exact ⟨x, (((Below.refl w.heap.size w).alloc (Nat.le_refl _) _).cell (p := ⟨b, off + i, none⟩) h2).trans c, r⟩
set_option maxHeartbeats 1000000 in
theorem drawEscaped_any {w : World} {a : Option Addr} {n cap : Nat} (h : CodeAt w a n) :
    Calls Tryd.prog 8 #[.slice a n cap] w fun e w' => (∃ s : ByteArray, e = .returned (.string s) ∧ s.size ≤ 20) ∧ Below w.heap.size w w' := by
  have h' : Hid (CodeAt w a n) := h
  clear h
  go_enter Tryd.func8, Tryd.ntmps8
  go_wp2_with fail
  refine (open_any h'.out).mono ?_
  rintro e w1 ⟨g, rfl, hg, hr1, hb1⟩
  have hr1' : Hid (RdAt w1 g a n cap) := hr1
  have hb1' : Hid (Below w.heap.size w w1) := hb1
  clear hr1 hb1
  go_wp2_with fail
  refine (below_any hr1'.out 6 (by omega) (by omega)).mono ?_
  rintro e w2 ⟨v, rfl, v0, v1, hr2, hg2⟩
  have hr2' : Hid (RdAt w2 g a n cap) := hr2
  have hb2' : Hid (Below w.heap.size w w2) := below_grown hb1'.out hg hg2
  clear hr2 hg2
  go_wp2_with fail
  go_loopw [4, 5] (fun z i wr => ∃ (q : Int) (acc : ByteArray), 0 ≤ q ∧ q ≤ v ∧ i = .int .i64 q ∧ z = .string acc ∧ Hid ((acc.size : Int) ≤ 4 * (v - q)) ∧ Hid (RdAt wr g a n cap) ∧ Hid (Below w.heap.size w wr)) (fun _ i _ => (intOf i).toNat)
  case atStart => exact ⟨v, ⟨#[]⟩, v0, by omega, rfl, rfl, by show ((0 : Nat) : Int) ≤ 4 * (v - v); omega, hr2', hb2'⟩
  case round =>
    obtain ⟨q, acc, q0, q1, rfl, rfl, hsz, hr, hb⟩ := hrel
    by_cases hq : 0 < q
    · go_wp2_with fail
      refine (signs_any hr.out).mono ?_
      rintro e w3 ⟨s, rfl, hs, hr3, hg3⟩
      have hr3' : Hid (RdAt w3 g a n cap) := hr3
      have hb3' : Hid (Below w.heap.size w w3) := below_grown hb.out hg hg3
      have hd : ¬ 9223372036854775807 < acc.size + s.size := by have := hsz.out; omega
      have hs' : Hid (s.size ≤ 4) := hs
      clear hr3 hg3 hs
      go_wp2_with fail
      go_roundw
      case rel => exact ⟨q - 1, acc ++ s, by omega, by omega, by go_num, rfl, by show _ ≤ _; rw [ByteArray.size_append]; have := hsz.out; have := hs'.out; omega, hr3', hb3'⟩
      case measure => simp [intOf]; omega
    · go_wp2_with fail
      go_ret
      exact ⟨⟨acc, rfl, by have := hsz.out; omega⟩, hb.out⟩
theorem d_slice_to (s : ByteArray) (j : Nat) (hj : j ≤ s.size) (w : World) :
    (Instr.slice 9 (.string s) none (some (.int .i64 j)) none).run Tryd.prog w = .ok (.string (s.extract 0 j)) w := by
  have := run_slice_string_h (P := Tryd.prog) w 9 s Tryd.underlying9 .i64 j (by omega) (by omega)
  simpa using this
theorem d_slice_from (s : ByteArray) (i : Nat) (hi : i ≤ s.size) (w : World) :
    (Instr.slice 9 (.string s) (some (.int .i64 i)) none none).run Tryd.prog w = .ok (.string (s.extract i s.size)) w := by
  have := run_slice_string_l (P := Tryd.prog) w 9 s Tryd.underlying9 .i64 i (by omega) (by omega)
  simpa using this
def hurt4 : List ByteArray := [⟨#[60]⟩, ⟨#[62]⟩, ⟨#[32]⟩, ⟨#[60, 97, 62, 60, 47, 97, 62]⟩]
def hurt5 : List ByteArray := [⟨#[60]⟩, ⟨#[62]⟩, ⟨#[47]⟩, ⟨#[97]⟩, ⟨#[32]⟩]
set_option maxHeartbeats 1000000 in
theorem hurt_any {w : World} {g : Nat} {a : Option Addr} {n cap : Nat} (h : RdAt w g a n cap) (s : ByteArray) (hs : s.size ≤ 1048576) :
    Calls Tryd.prog 39 #[.pointer (some ⟨g, 0, none⟩), .string s] w fun e w' => ∃ t : ByteArray, e = .returned (.string t) ∧ t.size ≤ s.size + 7 ∧ RdAt w' g a n cap ∧ w.grownBy w' (some g) := by
  have h' : Hid (RdAt w g a n cap) := h
  have hlt := h.lt
  clear h
  go_enter Tryd.func39, Tryd.ntmps39
  go_wp2_with fail
  refine (below_any h'.out 6 (by omega) (by omega)).mono ?_
  rintro e w1 ⟨v, rfl, v0, v1, hr1, hg1⟩
  have hr1' : Hid (RdAt w1 g a n cap) := hr1
  have hg1' : Hid (w.grownBy w1 (some g)) := hg1
  have hlt1 := hr1.lt
  clear hr1 hg1
  by_cases e1 : v = 1
  · subst e1
    go_wp2_with fail
    refine (below_any hr1'.out _ (by omega) (by omega)).mono ?_
    rintro e w2 ⟨u, rfl, u0, u1, hr2, hg2⟩
    have hr2' : Hid (RdAt w2 g a n cap) := hr2
    have hg2' : Hid (w.grownBy w2 (some g)) := hg1'.out.trans hg2
    clear hr2 hg2
    obtain ⟨k, rfl⟩ := Int.eq_ofNat_of_zero_le u0
    have hsl := d_slice_to s k (by omega) w2
    have hsz : Hid ((s.extract 0 k).size ≤ s.size + 7) := by show _ ≤ _; rw [ByteArray.size_extract]; omega
    go_wp2_with fail
    go_ret
    exact ⟨_, rfl, hsz.out, hr2'.out, hg2'.out⟩
  by_cases e2 : v = 2
  · subst e2
    by_cases hp : (0 : Int) < (s.size : Int)
    · go_wp2_with fail
      refine (below_any hr1'.out _ (by omega) (by omega)).mono ?_
      rintro e w2 ⟨u, rfl, u0, u1, hr2, hg2⟩
      have hr2' : Hid (RdAt w2 g a n cap) := hr2
      have hg2' : Hid (w.grownBy w2 (some g)) := hg1'.out.trans hg2
      have hlt2 := hr2.lt
      clear hr2 hg2
      obtain ⟨k, rfl⟩ := Int.eq_ofNat_of_zero_le u0
      have hsl : ∀ w, (Instr.slice 9 (.string s) none (some (.int .i64 k)) none).run Tryd.prog w = .ok (.string (s.extract 0 k)) w := d_slice_to s k (by omega)
      have hsl2 : ∀ w, (Instr.slice 9 (.string s) (some (.int .i64 ((k : Int) + 1))) none none).run Tryd.prog w = .ok (.string (s.extract (k + 1) s.size)) w := fun w => by have := d_slice_from s (k + 1) (by omega) w; simpa using this
      have hz1 : (s.extract 0 k).size = k := by rw [ByteArray.size_extract]; omega
      have hz2 : (s.extract (k + 1) s.size).size = s.size - (k + 1) := by rw [ByteArray.size_extract]; omega
      have hwk : IntKind.i64.wrap ((k : Int) + 1) = (k : Int) + 1 := by rw [IntKind.wrap_i64]; omega
      have hk1 : (0 : Int) ≤ (k : Int) + 1 := by omega
      have hk2 : (k : Int) + 1 ≤ (s.size : Int) := by omega
      generalize s.extract 0 k = sA at hsl hz1
      generalize s.extract (k + 1) s.size = sB at hsl2 hz2
      have hz1' : Hid (sA.size = k) := hz1
      have hz2' : Hid (sB.size = s.size - (k + 1)) := hz2
      clear hz1 hz2
      go_wp2_with fail
      refine wp_region_held_drew (S := fun w' => True) (by kernel_rfl) trivial (fun hHeld => ?_)
      refine take_lit (i := 0) (d := 26) (v := ?_) rfl rfl (by kernel_rfl) (by kernel_rfl) (by kernel_rfl) (fun _ _ _ h => h) (Or.inl ⟨by rfl, ?_⟩) (by assumption) ?_
      rotate_left
      · (intro w hSw; (try dsimp only at hSw); first | (go_simp; done) | (go_simp; with_reducible rfl))
      simp only [List.set_cons_zero, List.set_cons_succ]
      refine take_lit (i := 1) (d := 27) (v := ?_) rfl rfl (by kernel_rfl) (by kernel_rfl) (by kernel_rfl) (fun _ _ _ h => h) (Or.inl ⟨by rfl, ?_⟩) (by assumption) ?_
      rotate_left
      · (intro w hSw; (try dsimp only at hSw); first | (go_simp; done) | (go_simp; with_reducible rfl))
      simp only [List.set_cons_zero, List.set_cons_succ]
      refine take_lit (i := 2) (d := 28) (v := ?_) rfl rfl (by kernel_rfl) (by kernel_rfl) (by kernel_rfl) (fun _ _ _ h => h) (Or.inl ⟨by rfl, ?_⟩) (by assumption) ?_
      rotate_left
      · (intro w hSw; (try dsimp only at hSw); first | (go_simp; done) | (go_simp; with_reducible rfl))
      simp only [List.set_cons_zero, List.set_cons_succ]
      refine take_lit (i := 4) (d := 30) (v := ?_) rfl rfl (by kernel_rfl) (by kernel_rfl) (by kernel_rfl) (fun _ _ _ h => h) (Or.inl ⟨by rfl, ?_⟩) (by assumption) ?_
      rotate_left
      · (intro w hSw; (try dsimp only at hSw); first | (go_simp; done) | (go_simp; with_reducible rfl))
      simp only [List.set_cons_zero, List.set_cons_succ]
      refine take_lit (i := 9) (d := 35) (v := ?_) rfl rfl (by kernel_rfl) (by kernel_rfl) (by kernel_rfl) (fun _ _ _ h => h) (Or.inl ⟨by rfl, ?_⟩) (by assumption) ?_
      rotate_left
      · (intro w hSw; (try dsimp only at hSw); first | (go_simp; done) | (go_simp; with_reducible rfl))
      simp only [List.set_cons_zero, List.set_cons_succ]
      refine take_lit (i := 10) (d := 36) (v := ?_) rfl rfl (by kernel_rfl) (by kernel_rfl) (by kernel_rfl) (fun _ _ _ h => h) (Or.inl ⟨by rfl, ?_⟩) (by assumption) ?_
      rotate_left
      · (intro w hSw; (try dsimp only at hSw); first | (go_simp; done) | (go_simp; with_reducible rfl))
      simp only [List.set_cons_zero, List.set_cons_succ]
      refine take_lit (i := 11) (d := 37) (v := ?_) rfl rfl (by kernel_rfl) (by kernel_rfl) (by kernel_rfl) (fun _ _ _ h => h) (Or.inl ⟨by rfl, ?_⟩) (by assumption) ?_
      rotate_left
      · (intro w hSw; (try dsimp only at hSw); first | (go_simp; done) | (go_simp; with_reducible rfl))
      simp only [List.set_cons_zero, List.set_cons_succ]
      refine take_lit (i := 12) (d := 38) (v := ?_) rfl rfl (by kernel_rfl) (by kernel_rfl) (by kernel_rfl) (fun _ _ _ h => h) (Or.inl ⟨by rfl, ?_⟩) (by assumption) ?_
      rotate_left
      · (intro w hSw; (try dsimp only at hSw); first | (go_simp; done) | (go_simp; with_reducible rfl))
      simp only [List.set_cons_zero, List.set_cons_succ]
      refine wpAnyH_ready (rs := [3, 5]) (by kernel_rfl) (by simp) ?_
      refine (AllReadyH.cons rfl (fun K hK => ?_) (AllReadyH.cons rfl (fun K hK => ?_) AllReadyH.nil))
      · go_simp
        refine hK.out _ _ trivial (fun hHeld => ?_)
        clear hK K
        refine wpAnyH_ready (rs := [5]) (by kernel_rfl) (by simp) ?_
        refine AllReadyH.cons rfl (fun K hK => ?_) AllReadyH.nil
        go_simp
        refine (below_any (by exact RdAt.below (w := w2) hr2'.out ((Below.drew (Below.refl _ _)).alloc (Nat.le_refl _) _)) 5 (by omega) (by omega)).mono ?_
        rintro e w3 ⟨u, rfl, u0, u1, hr3, hg3⟩
        have hr3' : Hid (RdAt w3 g a n cap) := hr3
        have hg3' : Hid (w.grownBy w3 (some g)) := hg2'.out.trans ((grown_of_below (w := w2) ((Below.drew (Below.refl _ _)).alloc (Nat.le_refl _) (.cells #[.string ⟨#[60]⟩, .string ⟨#[62]⟩, .string ⟨#[47]⟩, .string ⟨#[97]⟩, .string ⟨#[32]⟩] 9)) _).trans hg3)
        have bx3 : Hid (Box w3 w2.heap.size (hurt5.map Value.string) 9) := box_other (Box.new w2.drew (hurt5.map Value.string) 9) (by show w2.heap.size ≠ g; omega) hg3
        obtain ⟨k', rfl⟩ := Int.eq_ofNat_of_zero_le u0
        have hk : k' < hurt5.length := by show k' < 5; omega
        have hk5 : (k' : Int) < 5 := by omega
        clear hr3 hg3
        refine hK.out _ _ trivial (fun hHeld => ?_)
        clear hK K
        refine take_lit (i := 6) (d := 32) (v := ?_) rfl rfl (by kernel_rfl) (by kernel_rfl) (by kernel_rfl) (fun _ _ _ h => h) (Or.inl ⟨by rfl, ?_⟩) (by assumption) ?_
        rotate_left
        · (intro w hSw; (try dsimp only at hSw); first | (go_simp; done) | (go_simp; with_reducible rfl))
        simp only [List.set_cons_zero, List.set_cons_succ]
        refine wpAnyH_ready (rs := [7]) (by kernel_rfl) (by simp) ?_
        refine AllReadyH.cons rfl (fun K hK => ?_) AllReadyH.nil
        have hc := box_str bx3.out k' hk
        have hsz : hurt5[k'].size ≤ 1 := mem_le (by decide) k' hk
        have hlit : [Value.string ⟨#[60]⟩, Value.string ⟨#[62]⟩, Value.string ⟨#[47]⟩, Value.string ⟨#[97]⟩, Value.string ⟨#[32]⟩][k']? = some (.string hurt5[k']) := by show (hurt5.map Value.string)[k']? = _; rw [List.getElem?_map, List.getElem?_eq_getElem hk]; rfl
        generalize hurt5[k'] = qq at hc hsz hlit
        have hd1 : ¬ 9223372036854775807 < sA.size + qq.size := by have := hz1'.out; omega
        have hd2 : ¬ 9223372036854775807 < sA.size + qq.size + sB.size := by have := hz1'.out; have := hz2'.out; omega
        go_simp
        refine hK.out _ _ trivial (fun hHeld => ?_)
        clear hK K
        refine take_lit (i := 8) (d := 34) (v := ?_) rfl rfl (by kernel_rfl) (by kernel_rfl) (by kernel_rfl) (fun _ _ _ h => h) (Or.inl ⟨by rfl, ?_⟩) (by assumption) ?_
        rotate_left
        · (intro w hSw; (try dsimp only at hSw); first | (go_simp; done) | (go_simp; with_reducible rfl))
        simp only [List.set_cons_zero, List.set_cons_succ]
        refine take_lit (i := 13) (d := 39) (v := ?_) rfl rfl (by kernel_rfl) (by kernel_rfl) (by kernel_rfl) (fun _ _ _ h => h) (Or.inl ⟨by rfl, ?_⟩) (by assumption) ?_
        rotate_left
        · (intro w hSw; (try dsimp only at hSw); first | (go_simp; done) | (go_simp; with_reducible rfl))
        simp only [List.set_cons_zero, List.set_cons_succ]
        refine take_lit (i := 14) (d := 4) (v := ?_) rfl rfl (by kernel_rfl) (by kernel_rfl) (by kernel_rfl) (fun _ _ _ h => h) (Or.inl ⟨by rfl, ?_⟩) (by assumption) ?_
        rotate_left
        · (intro w hSw; (try dsimp only at hSw); first | (go_simp; done) | (go_simp; with_reducible rfl))
        simp only [List.set_cons_zero, List.set_cons_succ]
        refine wpAnyH_done (by kernel_rfl) ?_ _
        go_wp2_with fail
        go_ret
        exact ⟨_, rfl, by rw [ByteArray.size_append, ByteArray.size_append]; have := hz1'.out; have := hz2'.out; omega, hr3'.out, hg3'.out⟩
      · go_simp
        refine (below_any (by exact hr2'.out) 5 (by omega) (by omega)).mono ?_
        rintro e w3 ⟨u, rfl, u0, u1, hr3, hg3⟩
        have hr3' : Hid (RdAt w3 g a n cap) := hr3
        have hg3' : Hid (w.grownBy w3 (some g)) := hg2'.out.trans ((grown_of_below (w := w2) (Below.drew (Below.refl _ _)) _).trans hg3)
        obtain ⟨k', rfl⟩ := Int.eq_ofNat_of_zero_le u0
        have hk : k' < hurt5.length := by show k' < 5; omega
        have hk5 : (k' : Int) < 5 := by omega
        clear hr3 hg3
        refine hK.out _ _ trivial (fun hHeld => ?_)
        clear hK K
        refine wpAnyH_ready (rs := [3]) (by kernel_rfl) (by simp) ?_
        refine AllReadyH.cons rfl (fun K hK => ?_) AllReadyH.nil
        go_simp
        refine hK.out _ _ trivial (fun hHeld => ?_)
        clear hK K
        refine take_lit (i := 6) (d := 32) (v := ?_) rfl rfl (by kernel_rfl) (by kernel_rfl) (by kernel_rfl) (fun _ _ _ h => h) (Or.inl ⟨by rfl, ?_⟩) (by assumption) ?_
        rotate_left
        · (intro w hSw; (try dsimp only at hSw); first | (go_simp; done) | (go_simp; with_reducible rfl))
        simp only [List.set_cons_zero, List.set_cons_succ]
        refine wpAnyH_ready (rs := [7]) (by kernel_rfl) (by simp) ?_
        refine AllReadyH.cons rfl (fun K hK => ?_) AllReadyH.nil
        have hc := box_str (Box.new w3 (hurt5.map Value.string) 9) k' hk
        have hsz : hurt5[k'].size ≤ 1 := mem_le (by decide) k' hk
        have hlit : [Value.string ⟨#[60]⟩, Value.string ⟨#[62]⟩, Value.string ⟨#[47]⟩, Value.string ⟨#[97]⟩, Value.string ⟨#[32]⟩][k']? = some (.string hurt5[k']) := by show (hurt5.map Value.string)[k']? = _; rw [List.getElem?_map, List.getElem?_eq_getElem hk]; rfl
        generalize hurt5[k'] = qq at hc hsz hlit
        have hd1 : ¬ 9223372036854775807 < sA.size + qq.size := by have := hz1'.out; omega
        have hd2 : ¬ 9223372036854775807 < sA.size + qq.size + sB.size := by have := hz1'.out; have := hz2'.out; omega
        go_simp
        refine hK.out _ _ trivial (fun hHeld => ?_)
        clear hK K
        refine take_lit (i := 8) (d := 34) (v := ?_) rfl rfl (by kernel_rfl) (by kernel_rfl) (by kernel_rfl) (fun _ _ _ h => h) (Or.inl ⟨by rfl, ?_⟩) (by assumption) ?_
        rotate_left
        · (intro w hSw; (try dsimp only at hSw); first | (go_simp; done) | (go_simp; with_reducible rfl))
        simp only [List.set_cons_zero, List.set_cons_succ]
        refine take_lit (i := 13) (d := 39) (v := ?_) rfl rfl (by kernel_rfl) (by kernel_rfl) (by kernel_rfl) (fun _ _ _ h => h) (Or.inl ⟨by rfl, ?_⟩) (by assumption) ?_
        rotate_left
        · (intro w hSw; (try dsimp only at hSw); first | (go_simp; done) | (go_simp; with_reducible rfl))
        simp only [List.set_cons_zero, List.set_cons_succ]
        refine take_lit (i := 14) (d := 4) (v := ?_) rfl rfl (by kernel_rfl) (by kernel_rfl) (by kernel_rfl) (fun _ _ _ h => h) (Or.inl ⟨by rfl, ?_⟩) (by assumption) ?_
        rotate_left
        · (intro w hSw; (try dsimp only at hSw); first | (go_simp; done) | (go_simp; with_reducible rfl))
        simp only [List.set_cons_zero, List.set_cons_succ]
        refine wpAnyH_done (by kernel_rfl) ?_ _
        go_wp2_with fail
        go_ret
        exact ⟨_, rfl, by rw [ByteArray.size_append, ByteArray.size_append]; have := hz1'.out; have := hz2'.out; omega, (RdAt.below hr3'.out ((Below.refl _ _).alloc (Nat.le_refl _) _)), (hg3'.out.trans (grown_of_below ((Below.refl w3.heap.size w3).alloc (Nat.le_refl _) (.cells #[.string ⟨#[60]⟩, .string ⟨#[62]⟩, .string ⟨#[47]⟩, .string ⟨#[97]⟩, .string ⟨#[32]⟩] 9)) _))⟩
    · go_wp2_with fail
      go_ret
      exact ⟨_, rfl, by omega, hr1'.out, hg1'.out⟩
  by_cases e3 : v = 3
  · subst e3
    have hb2 : Hid (Below w1.heap.size w1 (w1.alloc (.cells #[.string ⟨#[60]⟩, .string ⟨#[62]⟩, .string ⟨#[32]⟩, .string ⟨#[60, 97, 62, 60, 47, 97, 62]⟩] 9))) := (Below.refl _ _).alloc (Nat.le_refl _) _
    have bx2 : Hid (Box (w1.alloc (.cells #[.string ⟨#[60]⟩, .string ⟨#[62]⟩, .string ⟨#[32]⟩, .string ⟨#[60, 97, 62, 60, 47, 97, 62]⟩] 9)) w1.heap.size (hurt4.map Value.string) 9) := Box.new w1 _ _
    go_wp2_with fail
    refine (below_any (RdAt.below hr1'.out hb2.out) 4 (by omega) (by omega)).mono ?_
    rintro e w2 ⟨u, rfl, u0, u1, hr2, hg2⟩
    have hr2' : Hid (RdAt w2 g a n cap) := hr2
    have hg2' : Hid (w.grownBy w2 (some g)) := hg1'.out.trans ((grown_of_below hb2.out _).trans hg2)
    have bx3 : Hid (Box w2 w1.heap.size (hurt4.map Value.string) 9) := box_other bx2.out (by omega) hg2
    obtain ⟨k, rfl⟩ := Int.eq_ofNat_of_zero_le u0
    have hk : k < hurt4.length := by show k < 4; omega
    have hc := box_str bx3.out k hk
    have hsz : hurt4[k].size ≤ 7 := mem_le (by decide) k hk
    generalize hurt4[k] = q at hc hsz
    have hd : ¬ 9223372036854775807 < s.size + q.size := by omega
    have hsz' : Hid (q.size ≤ 7) := hsz
    clear hr2 hg2 hsz
    go_wp2_with fail
    go_ret
    exact ⟨_, rfl, by rw [ByteArray.size_append]; have := hsz'.out; omega, hr2'.out, hg2'.out⟩
  go_wp2_with fail
  go_ret
  exact ⟨_, rfl, by omega, hr1'.out, hg1'.out⟩
def some5 : List ByteArray := [⟨#[60]⟩, ⟨#[38]⟩, ⟨#[38, 97, 109]⟩, ⟨#[38, 97, 109, 112, 59]⟩, ⟨#[34]⟩]
set_option maxHeartbeats 1000000 in
theorem drawUnescaped_any {w : World} {a : Option Addr} {n cap : Nat} (h : CodeAt w a n) :
    Calls Tryd.prog 12 #[.slice a n cap] w fun e w' => (∃ s : ByteArray, e = .returned (.string s) ∧ s.size ≤ 200) ∧ Below w.heap.size w w' := by
  have h' : Hid (CodeAt w a n) := h
  clear h
  go_enter Tryd.func12, Tryd.ntmps12
  go_wp2_with fail
  refine (open_any h'.out).mono ?_
  rintro e w1 ⟨g, rfl, hg, hr1, hb1⟩
  have hr1' : Hid (RdAt w1 g a n cap) := hr1
  have hb1' : Hid (Below w.heap.size w w1) := hb1
  clear hr1 hb1
  go_wp2_with fail
  refine (drawEscaped_any (CodeAt.below h'.out hb1'.out)).mono ?_
  rintro e w2 ⟨⟨s, rfl, hs⟩, hb2⟩
  have hr2' : Hid (RdAt w2 g a n cap) := RdAt.below hr1'.out hb2
  have hb2' : Hid (Below w.heap.size w w2) := hb1'.out.trans (hb2.mono hb1'.out.size)
  clear hb2
  go_wp2_with fail
  refine (specEscaped_any s w2 (by omega)).mono ?_
  rintro e w3 ⟨⟨r, rfl, hr⟩, rfl⟩
  have hrs : r.size ≤ 120 := by have := escL_length s.data.toList; rw [← hr, eb_len, eb_len] at this; omega
  clear hr
  go_wp2_with fail
  refine (once_any hr2'.out 3 (by omega) (by omega)).mono ?_
  rintro e w4 ⟨v, rfl, hr4, hg4⟩
  have hr4' : Hid (RdAt w4 g a n cap) := hr4
  have hb4' : Hid (Below w.heap.size w w4) := below_grown hb2'.out hg hg4
  have hlt4 := hr4.lt
  clear hr4 hg4
  cases v
  · go_wp2_with fail
    refine (hurt_any hr4'.out r (by omega)).mono ?_
    rintro e w5 ⟨t, rfl, ht, hr5, hg5⟩
    have hb5' : Hid (Below w.heap.size w w5) := below_grown hb4'.out hg hg5
    have ht' : Hid (t.size ≤ r.size + 7) := ht
    clear hr5 hg5 ht
    go_wp2_with fail
    go_ret
    exact ⟨⟨_, rfl, by have := ht'.out; omega⟩, hb5'.out⟩
  · have hb5 : Hid (Below w4.heap.size w4 (w4.alloc (.cells #[.string ⟨#[60]⟩, .string ⟨#[38]⟩, .string ⟨#[38, 97, 109]⟩, .string ⟨#[38, 97, 109, 112, 59]⟩, .string ⟨#[34]⟩] 9))) := (Below.refl _ _).alloc (Nat.le_refl _) _
    have bx5 : Hid (Box (w4.alloc (.cells #[.string ⟨#[60]⟩, .string ⟨#[38]⟩, .string ⟨#[38, 97, 109]⟩, .string ⟨#[38, 97, 109, 112, 59]⟩, .string ⟨#[34]⟩] 9)) w4.heap.size (some5.map Value.string) 9) := Box.new w4 _ _
    go_wp2_with fail
    refine (below_any (RdAt.below hr4'.out hb5.out) 5 (by omega) (by omega)).mono ?_
    rintro e w6 ⟨u, rfl, u0, u1, hr6, hg6⟩
    have hb6' : Hid (Below w.heap.size w w6) := below_grown (hb4'.out.trans (hb5.out.mono hb4'.out.size)) hg hg6
    have bx6 : Hid (Box w6 w4.heap.size (some5.map Value.string) 9) := box_other bx5.out (by omega) hg6
    obtain ⟨k, rfl⟩ := Int.eq_ofNat_of_zero_le u0
    have hk : k < some5.length := by show k < 5; omega
    have hc := box_str bx6.out k hk
    have hsz : some5[k].size ≤ 5 := mem_le (by decide) k hk
    generalize some5[k] = q at hc hsz
    have hd : ¬ 9223372036854775807 < r.size + q.size := by omega
    have hsz' : Hid (q.size ≤ 5) := hsz
    clear hr6 hg6 hsz
    go_wp2_with fail
    go_ret
    exact ⟨⟨_, rfl, by rw [ByteArray.size_append]; have := hsz'.out; omega⟩, hb6'.out⟩
end Go.Proofs.YtapjplecdfemeaaDoor
