/- For every code that is drawn by, the drawn text escaped comes back unescaped, of two pieces it is the one escaped behind the other, and what is unescaped, escaped again, has just its bytes; where the table of signs starts as the program's text lays it; the code reads behind the call as it read before. -/
import Derived.Test.YtapjplecdfemeaaDoorDoorTab
import Derived.Test.YtapjplecdfemeaaDoorDrawsEsc
import Derived.Test.YtapjplecdfemeaaDoorEscAp
import Derived.Test.YtapjplecdfemeaaDoorUnSpec
import Derived.Test.YtapjplecdfemeaaDoorUnLaws
import Derived.Test.YtapjplecdfemeaaDoorTakeLit
namespace Go.Proofs.YtapjplecdfemeaaDoor.fnEscapes
open Go.ChangeShapes Go.WideShapes Go.ChangeAt Go.RowKit
open Go.ChangeMaps (open_string shut_string)
set_option maxHeartbeats 400000 in
theorem big_any {a : Option Addr} {n cap : Nat} (w : World) : Calls Tryd.prog 7 #[.slice a n cap] w fun e w' => e = .returned (.bool (decide ((1048576 : Int) < (n : Int)))) ∧ w' = w := by
  go_enter Tryd.func7, Tryd.ntmps7
  go_wp2
  go_ret
  exact ⟨rfl, rfl⟩
set_option maxRecDepth 100000 in
set_option maxHeartbeats 2000000 in
theorem walk {a : Option Addr} {n cap : Nat} (w : World) (hlen : n ≤ maxLen) (hcode : n ≤ 1048576 → CodeAt w a n) (hsg : Signs w) :
    Calls Tryd.prog 3 #[.slice a n cap] w fun e w' => e = .returned (.bool true) ∧ Below w.heap.size w w' := by
  unfold maxLen at hlen
  have hsg' : Hid (Signs w) := hsg
  clear hsg
  by_cases hbig : (1048576 : Int) < (n : Int)
  · clear hcode
    go_enter Tryd.func3, Tryd.ntmps3
    go_wp2_with (go_at_call 7; refine (big_any _).mono ?_; rintro e w' ⟨rfl, rfl⟩; rw [decide_eq_true hbig])
    go_ret
    exact ⟨rfl, Below.refl _ _⟩
  · have hc' : Hid (CodeAt w a n) := hcode (by omega)
    have hn0 : n ≤ 1048576 := by omega
    clear hcode
    go_enter Tryd.func3, Tryd.ntmps3
    go_wp2_with fail
    refine (big_any _).mono ?_
    rintro e w0 ⟨rfl, rfl⟩
    rw [decide_eq_false (show ¬ (1048576 : Int) < (n : Int) by omega)]
    go_wp2_with fail
    refine (drawEscaped_any hc'.out).mono ?_
    rintro e w2 ⟨⟨s, rfl, hs⟩, hb2⟩
    have hB2 : Hid (Below w0.heap.size w0 w2) := hb2
    have hs2 : Hid (Signs w2) := Signs.below hsg'.out hb2 (Signs.lt hsg'.out)
    clear hb2
    go_wp2_with fail
    refine (implEscaped_any s _ (by omega) hs2.out).mono ?_
    rintro e w3 ⟨⟨r, rfl, hr⟩, hb3⟩
    have hB3 : Hid (Below w0.heap.size w0 w3) := hB2.out.trans (hb3.mono hB2.out.size)
    have hs3 : Hid (Signs w3) := Signs.below hsg'.out hB3.out (Signs.lt hsg'.out)
    have hrs : r.size ≤ 120 := by have := escL_length s.data.toList; rw [← hr, eb_len, eb_len] at this; omega
    have hr' : Hid (r.data.toList = escL s.data.toList) := hr
    clear hr hb3
    go_wp2_with fail
    refine (implUnescaped_any r _ (by omega) hs3.out).mono ?_
    rintro e w4 ⟨rfl, hb4⟩
    have hB4' : Hid (Below w0.heap.size w0 w4) := hB3.out.trans (hb4.mono hB3.out.size)
    have hs4' : Hid (Signs w4) := Signs.below hsg'.out hB4'.out (Signs.lt hsg'.out)
    clear hb4
    rw [hr'.out, unL_esc, show unV (some s.data.toList) = .tuple #[.string s, .bool true] from rfl]
    have hmz : ¬ ((s.size : Int) + 1) = 0 := by omega
    have hm0 : 0 ≤ (n : Int) % ((s.size : Int) + 1) := Int.emod_nonneg _ hmz
    have hm1 : (n : Int) % ((s.size : Int) + 1) < (s.size : Int) + 1 := Int.emod_lt_of_pos _ (by omega)
    go_wp2_with fail
    obtain ⟨k, hk⟩ := Int.eq_ofNat_of_zero_le hm0
    rw [hk] at hm1 ⊢
    clear hm0 hk
    have hsl : ∀ w, (Instr.slice 9 (.string s) none (some (.int .i64 k)) none).run Tryd.prog w = .ok (.string (s.extract 0 k)) w := d_slice_to s k (by omega)
    have hsl2 : ∀ w, (Instr.slice 9 (.string s) (some (.int .i64 k)) none none).run Tryd.prog w = .ok (.string (s.extract k s.size)) w := d_slice_from s k (by omega)
    refine wp_region_held_drew (S := fun w' => True) (by kernel_rfl) trivial (fun hHeld => ?_)
    refine take_lit (i := 0) (d := 30) (v := ?_) rfl rfl (by kernel_rfl) (by kernel_rfl) (by kernel_rfl) (fun _ _ _ h => h) (Or.inl ⟨by rfl, ?_⟩) (by assumption) ?_
    rotate_left
    · (intro w hSw; (try dsimp only at hSw); first | (go_simp; done) | (go_simp; with_reducible rfl))
    simp only [List.set_cons_zero, List.set_cons_succ]
    refine take_lit (i := 1) (d := 31) (v := ?_) rfl rfl (by kernel_rfl) (by kernel_rfl) (by kernel_rfl) (fun _ _ _ h => h) (Or.inl ⟨by rfl, ?_⟩) (by assumption) ?_
    rotate_left
    · (intro w hSw; (try dsimp only at hSw); first | (go_simp; done) | (go_simp; with_reducible rfl))
    simp only [List.set_cons_zero, List.set_cons_succ]
    refine wpAnyH_ready (rs := [2]) (by kernel_rfl) (by simp) ?_
    refine AllReadyH.cons rfl (fun K hK => ?_) AllReadyH.nil
    go_simp
    refine (specEscaped_any s _ (by omega)).mono ?_
    rintro e w5 ⟨⟨r0, rfl, hr0⟩, rfl⟩
    obtain rfl : r = r0 := eb_eq (hr'.out.trans hr0.symm)
    clear hr0
    refine hK.out _ _ trivial (fun hHeld => ?_)
    clear hK K
    refine take_lit (i := 3) (d := 33) (v := ?_) rfl rfl (by kernel_rfl) (by kernel_rfl) (by kernel_rfl) (fun _ _ _ h => h) (Or.inl ⟨by rfl, ?_⟩) (by assumption) ?_
    rotate_left
    · (intro w hSw; (try dsimp only at hSw); first | (go_simp; done) | (go_simp; with_reducible rfl))
    simp only [List.set_cons_zero, List.set_cons_succ]
    refine take_lit (i := 4) (d := 34) (v := ?_) rfl rfl (by kernel_rfl) (by kernel_rfl) (by kernel_rfl) (fun _ _ _ h => h) (Or.inl ⟨by rfl, ?_⟩) (by assumption) ?_
    rotate_left
    · (intro w hSw; (try dsimp only at hSw); first | (go_simp; done) | (go_simp; with_reducible rfl))
    simp only [List.set_cons_zero, List.set_cons_succ]
    refine take_lit (i := 5) (d := 35) (v := ?_) rfl rfl (by kernel_rfl) (by kernel_rfl) (by kernel_rfl) (fun _ _ _ h => h) (Or.inl ⟨by rfl, ?_⟩) (by assumption) ?_
    rotate_left
    · (intro w hSw; (try dsimp only at hSw); first | (go_simp; done) | (go_simp; with_reducible rfl))
    simp only [List.set_cons_zero, List.set_cons_succ]
    refine take_lit (i := 6) (d := 36) (v := ?_) rfl rfl (by kernel_rfl) (by kernel_rfl) (by kernel_rfl) (fun _ _ _ h => h) (Or.inl ⟨by rfl, ?_⟩) (by assumption) ?_
    rotate_left
    · (intro w hSw; (try dsimp only at hSw); first | (go_simp; done) | (go_simp; with_reducible rfl))
    simp only [List.set_cons_zero, List.set_cons_succ]
    refine take_lit (i := 7) (d := 37) (v := ?_) rfl rfl (by kernel_rfl) (by kernel_rfl) (by kernel_rfl) (fun _ _ _ h => h) (Or.inl ⟨by rfl, ?_⟩) (by assumption) ?_
    rotate_left
    · (intro w hSw; (try dsimp only at hSw); first | (go_simp; done) | (go_simp; with_reducible rfl))
    simp only [List.set_cons_zero, List.set_cons_succ]
    refine take_lit (i := 8) (d := 38) (v := ?_) rfl rfl (by kernel_rfl) (by kernel_rfl) (by kernel_rfl) (fun _ _ _ h => h) (Or.inl ⟨by rfl, ?_⟩) (by assumption) ?_
    rotate_left
    · (intro w hSw; (try dsimp only at hSw); first | (go_simp; done) | (go_simp; with_reducible rfl))
    simp only [List.set_cons_zero, List.set_cons_succ]
    refine take_lit (i := 9) (d := 39) (v := ?_) rfl rfl (by kernel_rfl) (by kernel_rfl) (by kernel_rfl) (fun _ _ _ h => h) (Or.inl ⟨by rfl, ?_⟩) (by assumption) ?_
    rotate_left
    · (intro w hSw; (try dsimp only at hSw); first | (go_simp; done) | (go_simp; with_reducible rfl))
    simp only [List.set_cons_zero, List.set_cons_succ]
    refine take_lit (i := 10) (d := 40) (v := ?_) rfl rfl (by kernel_rfl) (by kernel_rfl) (by kernel_rfl) (fun _ _ _ h => h) (Or.inl ⟨by rfl, ?_⟩) (by assumption) ?_
    rotate_left
    · (intro w hSw; (try dsimp only at hSw); first | (go_simp; done) | (go_simp; with_reducible rfl))
    simp only [List.set_cons_zero, List.set_cons_succ]
    refine take_lit (i := 11) (d := 41) (v := ?_) rfl rfl (by kernel_rfl) (by kernel_rfl) (by kernel_rfl) (fun _ _ _ h => h) (Or.inl ⟨by rfl, ?_⟩) (by assumption) ?_
    rotate_left
    · (intro w hSw; (try dsimp only at hSw); first | (go_simp; done) | (go_simp; with_reducible rfl))
    simp only [List.set_cons_zero, List.set_cons_succ]
    refine take_lit (i := 12) (d := 42) (v := ?_) rfl rfl (by kernel_rfl) (by kernel_rfl) (by kernel_rfl) (fun _ _ _ h => h) (Or.inl ⟨by rfl, ?_⟩) (by assumption) ?_
    rotate_left
    · (intro w hSw; (try dsimp only at hSw); first | (go_simp; done) | (go_simp; with_reducible rfl))
    simp only [List.set_cons_zero, List.set_cons_succ]
    refine take_lit (i := 13) (d := 43) (v := ?_) rfl rfl (by kernel_rfl) (by kernel_rfl) (by kernel_rfl) (fun _ _ _ h => h) (Or.inl ⟨by rfl, ?_⟩) (by assumption) ?_
    rotate_left
    · (intro w hSw; (try dsimp only at hSw); first | (go_simp; done) | (go_simp; with_reducible rfl))
    simp only [List.set_cons_zero, List.set_cons_succ]
    refine take_lit (i := 14) (d := 44) (v := ?_) rfl rfl (by kernel_rfl) (by kernel_rfl) (by kernel_rfl) (fun _ _ _ h => h) (Or.inl ⟨by rfl, ?_⟩) (by assumption) ?_
    rotate_left
    · (intro w hSw; (try dsimp only at hSw); first | (go_simp; done) | (go_simp; with_reducible rfl))
    simp only [List.set_cons_zero, List.set_cons_succ]
    refine take_lit (i := 15) (d := 45) (v := ?_) rfl rfl (by kernel_rfl) (by kernel_rfl) (by kernel_rfl) (fun _ _ _ h => h) (Or.inl ⟨by rfl, ?_⟩) (by assumption) ?_
    rotate_left
    · (intro w hSw; (try dsimp only at hSw); first | (go_simp; done) | (go_simp; with_reducible rfl))
    simp only [List.set_cons_zero, List.set_cons_succ]
    refine take_lit (i := 16) (d := 46) (v := ?_) rfl rfl (by kernel_rfl) (by kernel_rfl) (by kernel_rfl) (fun _ _ _ h => h) (Or.inl ⟨by rfl, ?_⟩) (by assumption) ?_
    rotate_left
    · (intro w hSw; (try dsimp only at hSw); first | (go_simp; done) | (go_simp; with_reducible rfl))
    simp only [List.set_cons_zero, List.set_cons_succ]
    refine take_lit (i := 18) (d := 48) (v := ?_) rfl rfl (by kernel_rfl) (by kernel_rfl) (by kernel_rfl) (fun _ _ _ h => h) (Or.inl ⟨by rfl, ?_⟩) (by assumption) ?_
    rotate_left
    · (intro w hSw; (try dsimp only at hSw); first | (go_simp; done) | (go_simp; with_reducible rfl))
    simp only [List.set_cons_zero, List.set_cons_succ]
    refine take_lit (i := 19) (d := 49) (v := ?_) rfl rfl (by kernel_rfl) (by kernel_rfl) (by kernel_rfl) (fun _ _ _ h => h) (Or.inl ⟨by rfl, ?_⟩) (by assumption) ?_
    rotate_left
    · (intro w hSw; (try dsimp only at hSw); first | (go_simp; done) | (go_simp; with_reducible rfl))
    simp only [List.set_cons_zero, List.set_cons_succ]
    refine take_lit (i := 20) (d := 50) (v := ?_) rfl rfl (by kernel_rfl) (by kernel_rfl) (by kernel_rfl) (fun _ _ _ h => h) (Or.inl ⟨by rfl, ?_⟩) (by assumption) ?_
    rotate_left
    · (intro w hSw; (try dsimp only at hSw); first | (go_simp; done) | (go_simp; with_reducible rfl))
    simp only [List.set_cons_zero, List.set_cons_succ]
    refine take_lit (i := 23) (d := 53) (v := ?_) rfl rfl (by kernel_rfl) (by kernel_rfl) (by kernel_rfl) (fun _ _ _ h => h) (Or.inl ⟨by rfl, ?_⟩) (by assumption) ?_
    rotate_left
    · (intro w hSw; (try dsimp only at hSw); first | (go_simp; done) | (go_simp; with_reducible rfl))
    simp only [List.set_cons_zero, List.set_cons_succ]
    refine wpAnyH_ready (rs := [17]) (by kernel_rfl) (by simp) ?_
    refine AllReadyH.cons rfl (fun K hK => ?_) AllReadyH.nil
    go_simp
    refine (implEscaped_any (s.extract 0 k) _ (by rw [ByteArray.size_extract]; omega) (by exact hs4'.out)).mono ?_
    rintro e w6 ⟨⟨r1, rfl, hr1⟩, hb6⟩
    have hB6 : Hid (Below w0.heap.size w0 w6) := (hB4'.out.drew).trans (hb6.mono hB4'.out.size)
    have hs6 : Hid (Signs w6) := Signs.below hsg'.out hB6.out (Signs.lt hsg'.out)
    have hr1' : Hid (r1.data.toList = escL (s.extract 0 k).data.toList) := hr1
    clear hr1 hb6
    refine hK.out _ _ trivial (fun hHeld => ?_)
    clear hK K
    refine wpAnyH_ready (rs := [21]) (by kernel_rfl) (by simp) ?_
    refine AllReadyH.cons rfl (fun K hK => ?_) AllReadyH.nil
    go_simp
    refine (implEscaped_any (s.extract k s.size) _ (by rw [ByteArray.size_extract]; omega) (by exact hs6.out)).mono ?_
    rintro e w7 ⟨⟨r2, rfl, hr2⟩, hb7⟩
    have hB7 : Hid (Below w0.heap.size w0 w7) := hB6.out.trans (hb7.mono hB6.out.size)
    have heq : r1 ++ r2 = r := eb_eq (by rw [eb_app, hr1'.out, hr2, hr'.out, eb_mid, eb_mid, Nat.sub_zero, List.drop_zero, List.take_of_length_le (l := s.data.toList.drop k) (by simp)]; exact escL_split _ _)
    have hss : r1.size + r2.size = r.size := by rw [← heq, ByteArray.size_append]
    have hdd : ¬ 9223372036854775807 < r1.size + r2.size := by rw [hss]; omega
    clear hr2 hb7 hss
    refine hK.out _ _ trivial (fun hHeld => ?_)
    clear hK K
    refine take_lit (i := 22) (d := 52) (v := ?_) rfl rfl (by kernel_rfl) (by kernel_rfl) (by kernel_rfl) (fun _ _ _ h => h) (Or.inl ⟨by rfl, ?_⟩) (by assumption) ?_
    rotate_left
    · (intro w hSw; (try dsimp only at hSw); first | (go_simp; done) | (go_simp; with_reducible rfl))
    simp only [List.set_cons_zero, List.set_cons_succ]
    refine take_lit (i := 24) (d := 54) (v := ?_) rfl rfl (by kernel_rfl) (by kernel_rfl) (by kernel_rfl) (fun _ _ _ h => h) (Or.inl ⟨by rfl, ?_⟩) (by assumption) ?_
    rotate_left
    · (intro w hSw; (try dsimp only at hSw); first | (go_simp; done) | (go_simp; with_reducible rfl))
    simp only [List.set_cons_zero, List.set_cons_succ]
    refine take_lit (i := 25) (d := 55) (v := ?_) rfl rfl (by kernel_rfl) (by kernel_rfl) (by kernel_rfl) (fun _ _ _ h => h) (Or.inl ⟨by rfl, ?_⟩) (by assumption) ?_
    rotate_left
    · (intro w hSw; (try dsimp only at hSw); first | (go_simp; done) | (go_simp; with_reducible rfl))
    simp only [List.set_cons_zero, List.set_cons_succ]
    refine wpAnyH_done (by kernel_rfl) ?_ _
    generalize w7 = w8 at *
    go_wp2_with fail
    refine (drawUnescaped_any (CodeAt.below hc'.out hB7.out)).mono ?_
    rintro e w9 ⟨⟨u, rfl, hu⟩, hb9⟩
    have hB9 : Hid (Below w0.heap.size w0 w9) := hB7.out.trans (hb9.mono hB7.out.size)
    have hs9 : Hid (Signs w9) := Signs.below hsg'.out hB9.out (Signs.lt hsg'.out)
    clear hb9
    go_wp2_with fail
    refine (implUnescaped_any u _ (by omega) hs9.out).mono ?_
    rintro e w10 ⟨rfl, hb10⟩
    have hB10 : Hid (Below w0.heap.size w0 w10) := hB9.out.trans (hb10.mono hB9.out.size)
    have hs10 : Hid (Signs w10) := Signs.below hsg'.out hB10.out (Signs.lt hsg'.out)
    clear hb10
    cases hq : unL u.data.toList with
    | none =>
      rw [show unV none = .tuple #[.string ⟨#[]⟩, .bool false] from rfl]
      have HQ : Hid _ := hq
      clear hq
      go_wp2_with fail
      refine (specUnescaped_any u _ (by omega)).mono ?_
      rintro e w11 ⟨rfl, hb11⟩
      rw [HQ.out, show unV none = .tuple #[.string ⟨#[]⟩, .bool false] from rfl]
      go_wp2_with fail
      go_ret
      exact ⟨rfl, hB10.out.trans (hb11.mono hB10.out.size)⟩
    | some x =>
      rw [show unV (some x) = .tuple #[.string ⟨x.toArray⟩, .bool true] from rfl]
      have HQ : Hid (unL u.data.toList = some x) := hq
      have hxl := unL_length hq
      rw [eb_len] at hxl
      have hbk : Hid (escL x = u.data.toList) := unL_back hq
      clear hq
      go_wp2_with fail
      refine (specUnescaped_any u _ (by omega)).mono ?_
      rintro e w11 ⟨rfl, hb11⟩
      have hB11 : Hid (Below w0.heap.size w0 w11) := hB10.out.trans (hb11.mono hB10.out.size)
      have hs11 : Hid (Signs w11) := Signs.below hsg'.out hB11.out (Signs.lt hsg'.out)
      clear hb11
      rw [HQ.out, show unV (some x) = .tuple #[.string ⟨x.toArray⟩, .bool true] from rfl]
      have hxs : (⟨x.toArray⟩ : ByteArray).size ≤ 1048576 := by show x.toArray.size ≤ _; simp; omega
      have hxd : Hid ((⟨x.toArray⟩ : ByteArray).data.toList = x) := rfl
      generalize (⟨x.toArray⟩ : ByteArray) = xb at *
      go_wp2_with fail
      refine (implEscaped_any xb _ hxs hs11.out).mono ?_
      rintro e w12 ⟨⟨r3, rfl, hr3⟩, hb12⟩
      have hB12 : Hid (Below w0.heap.size w0 w12) := hB11.out.trans (hb12.mono hB11.out.size)
      obtain rfl : r3 = u := eb_eq (hr3.trans (by rw [hxd.out]; exact hbk.out))
      clear hr3 hb12
      go_wp2_with fail
      go_ret
      exact ⟨rfl, hB12.out⟩

/-- a cell that holds a byte -/
def U8At (_ : World) (_ : Nat) (cs : List Value) (x : Int) : Prop := cs = [.int .u8 x] ∧ 0 ≤ x ∧ x ≤ 255
theorem u8At_of_trod {H : Type} {enc : TypeId × Value → H} {w : World} {spare : Nat → Bool} {held : Bool} (n : Nat) (cs : List Value) (y : DataW H × List MemPlace) (h : DataW.trod enc Tryd.prog w 0 spare held n 5 cs = some y) : ∃ x, U8At w 0 cs x := by
  obtain ⟨x, e, _, hw⟩ := DataW.trod_int Tryd.underlying5 h
  refine ⟨x, e, ?_⟩
  simp [Lit.wf, IntKind.min, IntKind.max, IntKind.signed, IntKind.bits] at hw
  omega
theorem code_of {w : World} {a : Option Addr} {n cap : Nat} {xs : List Int} (h : SeqAt 1 U8At w 0 (.slice a n cap) xs) (hn : n ≤ 1048576) : CodeAt w a n := by
  obtain ⟨a', cap', e, hm, hx⟩ := h
  injection e with e1 e2 e3
  subst e1 e2 e3
  refine ⟨hn, fun h0 => ?_⟩
  obtain ⟨b, off, e, _, h2, h3⟩ := hx h0
  refine ⟨b, off, e, h2, fun i hi => ?_⟩
  obtain ⟨cs, hl, lie, rfl, hr⟩ := h3 i hi
  have := lie 0 (by simp)
  simp only [List.getElem?_cons_zero, Nat.add_zero, Nat.mul_one] at this
  exact ⟨_, this, hr⟩
theorem contract (H : Type) (enc : TypeId × Value → H) (W : World) (base : Nat) (args : Array Value) (ds gs : List (DataW H)) (before : List MemPlace)
    (hval0 : ∀ (j : Nat) t v, Tryd.f3.params[j]? = some t → args[j]? = some v → Value.okWide Tryd.prog W .any base t v)
    (hW : DataW.Whole enc Tryd.prog Tryd.f3.params.toList Rows.fnEscapesSpec.vars false W args.toList ds gs before) (hL : laidMetH Tryd.prog Rows.fnEscapesRow.laid W) :
    Calls Tryd.prog 3 args W fun e W' => ∃ v, e = .returned v ∧ Rows.fnEscapesSpec.post enc Tryd.prog Tryd.f3 false true false false W args v W' := by
  have hval : ∀ (j : Nat) t v, Tryd.f3.params[j]? = some t → args[j]? = some v → Value.okWide Tryd.prog W .any base t v := hval0
  have hsg : Signs W := signs_of hL
  have hW' := hW
  obtain ⟨p, q, hA0, hV, rfl, hfz, hnd⟩ := hW
  have hA : DataW.TrodAll enc Tryd.prog W 0 (fun _ => true) true Tryd.f3.params.toList args.toList ds p := hA0
  rw [Tryd.params3] at hA hval
  obtain ⟨v0, vs0, d0, ds0, p0, q0, hargs, rfl, rfl, h0, r0⟩ := trodAll_cons hA
  obtain ⟨rfl, rfl, rfl⟩ := trodAll_nil r0
  obtain rfl : args = #[v0] := by cases args; simp_all
  have hV' := hV
  obtain ⟨_, _, _, _, g1, _, rfl, _⟩ := trodVars_one hV
  have k0 := h0
  have lt0 : ∀ x ∈ p0, x.block < W.heap.size := by obtain ⟨m, hm⟩ := k0; exact DataW.trod_lt m _ _ _ hm
  obtain ⟨l1, n1, q1, rfl⟩ := okWide_slice Tryd.underlying22 (hval 0 22 v0 rfl rfl)
  obtain ⟨fuel, hf⟩ := h0
  obtain ⟨kI, xs, ecs, hti⟩ := seqAt_of_trod (R := U8At) Tryd.underlying22 (show Tryd.prog.cellsOf 5 = 1 from by kernel_rfl) (by decide) u8At_of_trod hf
  obtain rfl : Value.slice l1 n1 q1 = kI := by simpa [Value.cells] using ecs
  have hlen : n1 ≤ maxLen := by
    obtain ⟨a', cap', e, hm, _⟩ := id hti
    injection e with _ e2 _
    omega
  clear hA0 hval0
  refine (walk W hlen (code_of hti) hsg).mono fun e W' ⟨he, bel⟩ => ?_
  subst he
  exact ⟨_, rfl, _, _, _, [], _, _, hW', trodAll_mk1 (shut_bool Tryd.underlying4 _), (trodAll_cons_mk (Below.trod d_laidOut (by kernel_rfl) (of_decide_eq_true (by kernel_rfl)) k0 bel lt0) trodAll_mk0), Below.trodVars d_laidOut bel (by kernel_rfl) hV', bel.frame _, fun h => by cases h⟩
theorem laid_met (os : Os) : laidMet Tryd.prog Rows.fnEscapesRow.laid (({ World.holding Tryd.prog os ⟨#[], #[], []⟩ with heap := (World.holding Tryd.prog os ⟨#[], #[], []⟩).heap.modify 0 fun | .cells _ t frozen => .cells #[.int .u8 38, .string ampS, .int .u8 60, .string ltG, .int .u8 62, .string gtS, .int .u8 34, .string quotS] t frozen | o => o } : World).forCall (fun _ _ => 0) ⟨#[], #[.slice none 0 0], []⟩).memory :=
  laidMet_of_run' 8 (by kernel_rfl) (by kernel_rfl)
theorem reads (os : Os) {H : Type} (enc : TypeId × Value → H) : ∃ places, DataW.whole enc Tryd.prog (({ World.holding Tryd.prog os ⟨#[], #[], []⟩ with heap := (World.holding Tryd.prog os ⟨#[], #[], []⟩).heap.modify 0 fun | .cells _ t frozen => .cells #[.int .u8 38, .string ampS, .int .u8 60, .string ltG, .int .u8 62, .string gtS, .int .u8 34, .string quotS] t frozen | o => o } : World).forCall (fun _ _ => 0) ⟨#[], #[.slice none 0 0], []⟩).memory Tryd.f3.params.toList Rows.fnEscapesSpec.vars false #[Value.slice none 0 0].toList 8 = some ([.nil], [Rows.laid_loop_example_g00376_impl_signs], places) :=
  ⟨MemPlace.row ⟨0, 0, none⟩ 8, by kernel_rfl⟩
set_option maxRecDepth 100000 in
theorem lifted (os : Os) (started : os.Started) (H : Type) (enc : TypeId × Value → H) (F : Stop.Interp) :
    ReturnsInHanded {} Tryd.checked os 3 .any ((OpenSpec.ofChange Rows.fnEscapesSpec).preRow enc Tryd.prog Tryd.f3 Rows.fnEscapesRow.domain false Rows.fnEscapesRow.laid) (((OpenSpec.ofChange Rows.fnEscapesSpec).at F).post enc Tryd.prog Tryd.f3 false true false false) := by
  obtain ⟨places, hx⟩ := reads os enc
  refine returnsInHanded_of_row (C := Tryd.checked) (s := OpenSpec.ofChange Rows.fnEscapesSpec) d_own started (by kernel_rfl) Tryd.func3
    (witness_row_at (enc := enc) (C := Tryd.checked) false ({ World.holding Tryd.prog os ⟨#[], #[], []⟩ with heap := (World.holding Tryd.prog os ⟨#[], #[], []⟩).heap.modify 0 fun | .cells _ t frozen => .cells #[.int .u8 38, .string ampS, .int .u8 60, .string ltG, .int .u8 62, .string gtS, .int .u8 34, .string quotS] t frozen | o => o } : World) #[.slice none 0 0] rfl (by kernel_rfl) (by kernel_rfl) (by kernel_rfl)
      (OpenSpec.preRow_of_cond 8 hx (by kernel_rfl) (fun k hk => by cases hk) (by kernel_rfl) (laid_met os))) ?_
  intro W base args ds gs before hval hW _ _ _ hL _ _
  exact contract H enc W base args ds gs before hval hW hL
theorem said : Rows.FnEscapesSaid :=
  OpenClaim.holds_of_cond 3 Tryd.f3 rfl rfl rfl rfl rfl rfl rfl ⟨rfl, rfl, rfl, rfl, rfl⟩ rfl rfl rfl rfl rfl (by kernel_rfl) Tryd.func3 (by kernel_rfl)
    (of_decide_eq_true (by kernel_rfl)) (by unfold Func.isWrapper; first | (rw [if_pos (by decide +kernel)]; kernel_rfl) | (rw [if_neg (by decide +kernel)]; exact ⟨rfl, rfl⟩))
    (fun os started H enc _ F => by rw [OpenClaim.pre_eq_preRow]; exact lifted os started H enc F)
theorem plain (f : FuncId) (fn : Func) (hf : Tryd.pinned.checked.prog.funcNamed "loop.example/g00376/laws.FnEscapes" = some f) (hfn : Tryd.pinned.checked.prog.funcs[f]? = some fn) :
    false = Tryd.pinned.checked.prog.looks [] ∧ ∀ (j : Nat) t, fn.params[j]? = some t → Tryd.pinned.checked.prog.wantsStandIn t = false := by
  obtain rfl : f = 3 := Option.some.inj ((show Tryd.prog.funcNamed "loop.example/g00376/laws.FnEscapes" = some 3 by kernel_rfl).symm.trans hf) |>.symm
  obtain rfl : fn = Tryd.f3 := (Option.some.inj (Tryd.func3.symm.trans hfn)).symm
  refine ⟨by kernel_rfl, fun j t ht => ?_⟩
  rw [Tryd.params3] at ht
  obtain rfl : t = 22 := by simpa using Array.mem_of_getElem? ht
  exact (show Tryd.prog.wantsStandIn 22 = false by kernel_rfl)
theorem card : Rows.FnEscapesCardSaid :=
  Claim7.holds_tied_plain_at .later [] _ _ _ _ said (fun _ h => by cases h) (by kernel_rfl) (fun _ h => by cases h) fnEscapes_row_tie rfl ⟨rfl, rfl⟩ (by kernel_rfl) rfl plain (by kernel_rfl)
end Go.Proofs.YtapjplecdfemeaaDoor.fnEscapes
namespace Go.Proofs.YtapjplecdfemeaaDoor
theorem fnEscapes_holds : Rows.FnEscapesCardSaid := fnEscapes.card
end Go.Proofs.YtapjplecdfemeaaDoor
