/- What matchesBehind, matcherOf and Matches of the program return. -/
import Derived.Test.YtgmgbjeejlkdmaaMatchStep
import Derived.Laws.EntriesVeiled
namespace Go.Proofs.Ytgmgbjeejlkdmaa
open Go.RowKit
theorem SeqAt.mapped {α β : Type} {c : Nat} {R : World → Nat → List Value → α → Prop} {S : World → Nat → List Value → β → Prop} {f : α → β} {w : World} {lo : Nat} {k : Value} {xs : List α} (h : SeqAt c R w lo k xs) (hf : ∀ cs x, R w lo cs x → S w lo cs (f x)) : SeqAt c S w lo k (xs.map f) := by
  obtain ⟨a, cap, hk, hm, hx⟩ := h
  refine ⟨a, cap, by rw [List.length_map]; exact hk, by rw [List.length_map]; exact hm, fun h0 => ?_⟩
  rw [List.length_map] at h0
  obtain ⟨b, off, ha, h1, h2, hc⟩ := hx h0
  refine ⟨b, off, ha, h1, h2, fun i hi => ?_⟩
  rw [List.length_map] at hi
  obtain ⟨cs, hl, lie, r⟩ := hc i hi
  exact ⟨cs, hl, lie, by rw [List.getElem_map]; exact hf _ _ r⟩
set_option maxHeartbeats 2000000 in
theorem matchesBehind_any {st : Nat → StepD} {n : Nat} {w : World} {va : Value} {s : ByteArray} {dp : Bool} (hv : IsM st w n va) (hs : (st (n + 1)).vTag = s) (hd : (st (n + 1)).vDeep = dp) :
    Calls Try.prog 54 #[va, .agg #[.string s, .bool dp]] w fun e w' => (∃ v, e = .returned v ∧ IsM st w' (n + 1) v) ∧ Below w.heap.size w w' := by
  have hv' : Hid (IsM st w n va) := hv
  have hs' : Hid ((st (n + 1)).vTag = s) := hs
  have hd' : Hid ((st (n + 1)).vDeep = dp) := hd
  clear hs hd
  have hva : ∃ f caps, va = .func (.func f) #[] caps := by
    cases n with
    | zero => obtain ⟨g, rfl, _⟩ := hv; exact ⟨_, _, rfl⟩
    | succ n => obtain ⟨_, _, _, _, _, rfl, _⟩ := hv; exact ⟨_, _, rfl⟩
  obtain ⟨f, caps, rfl⟩ := hva
  clear hv
  go_enter Try.func54, Try.ntmps54
  go_wp2_with fail
  refine (hasTag_any s _).mono ?_
  rintro e w1 ⟨rfl, rfl⟩
  have hb1 : Below w.heap.size w (((w.alloc (.cells #[.func (.func f) #[] caps] 65)).alloc (.cells #[.string s, .bool dp] 49)).alloc (.cells #[.string s] 9)) := (((Below.refl _ _).alloc (Nat.le_refl _) _).alloc (by simp) _).alloc (by simp; omega) _
  have b1 : Hid (Box (((w.alloc (.cells #[.func (.func f) #[] caps] 65)).alloc (.cells #[.string s, .bool dp] 49)).alloc (.cells #[.string s] 9)) w.heap.size [.func (.func f) #[] caps] 65) := ((Box.new w _ _).alloc _).alloc _
  have b2 : Hid (Box (((w.alloc (.cells #[.func (.func f) #[] caps] 65)).alloc (.cells #[.string s, .bool dp] 49)).alloc (.cells #[.string s] 9)) (w.heap.size + 1) [.string s, .bool dp] 49) := by
    have := (Box.new (w.alloc (.cells #[.func (.func f) #[] caps] 65)) [.string s, .bool dp] 49).alloc (.cells #[.string s] 9)
    simpa only [World.size_alloc, Hid] using this
  have b3 : Hid (Box (((w.alloc (.cells #[.func (.func f) #[] caps] 65)).alloc (.cells #[.string s, .bool dp] 49)).alloc (.cells #[.string s] 9)) (w.heap.size + 1 + 1) [.string s] 9) := by
    have := Box.new ((w.alloc (.cells #[.func (.func f) #[] caps] 65)).alloc (.cells #[.string s, .bool dp] 49)) [.string s] 9
    simpa only [World.size_alloc, Hid] using this
  generalize hW : (((w.alloc (.cells #[.func (.func f) #[] caps] 65)).alloc (.cells #[.string s, .bool dp] 49)).alloc (.cells #[.string s] 9)) = W at hb1 b1 b2 b3
  clear hW
  go_wp2_with fail
  go_ret
  have hbW : Below W.heap.size W (W.alloc (.cells #[.func (.func 59) #[] #[.pointer (some ⟨w.heap.size + 1 + 1, 0, none⟩)]] 65)) := (Below.refl _ _).alloc (Nat.le_refl _) _
  have b4 := Box.new W [.func (.func 59) #[] #[.pointer (some ⟨w.heap.size + 1 + 1, 0, none⟩)]] 65
  refine ⟨⟨_, rfl, _, _, _, _, _, rfl, b4, b1.out.below hbW b1.out.lt, ?_, ⟨_, rfl, ?_⟩, ?_⟩, hb1.trans (hbW.mono hb1.size)⟩
  · rw [hs'.out, hd'.out]; exact b2.out.below hbW b2.out.lt
  · rw [hs'.out]; exact b3.out.below hbW b3.out.lt
  · exact IsM.below (hb1.trans (hbW.mono hb1.size)) hv'.out
theorem run_rest {a : Option Addr} {n cap : Nat} (h : 1 ≤ n) : ∀ W : World, Sem.run Try.prog (Instr.sliceAt 40 (.slice a n cap) (some (.int .i64 1)) none none) W = .ok (sliced a 1 n cap 2) W := fun W => by
  have h' : (1 : Int) ≤ (n : Int) := by omega
  simp [Instr.sliceAt, Instr.slice, run_underlying Try.underlying40, Instr.sliceBounds, run_sliceBound, sliced, Try.sizeOf49, Result.andThen, h']
set_option maxHeartbeats 4000000 in
theorem matcherOf_any {w : World} {lo : Nat} {k : Value} {l : List StepD} (hk : SeqAt 2 StepAt w lo k l) (hl : 1 ≤ l.length) :
    Calls Try.prog 41 #[k] w fun e w' => (∃ v, e = .returned v ∧ IsM (stL l) w' (l.length - 1) v) ∧ Below w.heap.size w w' := by
  obtain ⟨a, cap, rfl, hm, hx⟩ := hk
  unfold maxLen at hm
  obtain ⟨b, off, rfl, hlo, hbb, hc⟩ := hx (by omega)
  have hc' : Hid (∀ i, (h : i < l.length) → ∃ cs, cs.length = 2 ∧ Lie w b (off + i * 2) cs ∧ StepAt w lo cs l[i]) := hc
  obtain ⟨cs0, _, lie0, hr0⟩ := hc 0 (by omega)
  obtain ⟨rfl, _⟩ := hr0
  have z0 := lie0 0 (by simp)
  simp only [List.getElem?_cons_zero, Nat.zero_mul, Nat.add_zero] at z0
  have h0 : Hid ((stL l 0).vTag = l[0].vTag) := by show _ = _; rw [stL_get (by omega)]
  generalize l[0].vTag = s0 at z0 h0
  have hsl := run_rest (a := some ⟨b, off, none⟩) (n := l.length) (cap := cap) hl
  obtain ⟨a', hcut, ha'⟩ : ∃ a', sliced (some ⟨b, off, none⟩) 1 l.length cap 2 = .slice a' (l.length - 1) (cap - 1) ∧ (1 < l.length → a' = some ⟨b, off + 2, none⟩) := by
    refine ⟨_, rfl, fun h1 => ?_⟩
    rw [if_neg (by omega)]
    simp [Addr.add]
  rw [hcut] at hsl
  have ha : Hid (1 < l.length → a' = some ⟨b, off + 2, none⟩) := ha'
  obtain ⟨L, hL⟩ : ∃ L, L = l.length - 1 := ⟨_, rfl⟩
  rw [← hL] at hsl
  have hL' : Hid (L = l.length - 1) := hL
  have hLm : L < l.length := by omega
  have hLn : l.length = L + 1 := by omega
  have hLn' : Hid (l.length = L + 1) := hLn
  have hl1 : (0 : Int) < (l.length : Int) := by omega
  clear hcut ha' hc lie0 hx hL hLn
  go_enter Try.func41, Try.ntmps41
  go_wp2_with fail
  refine (hasTag_any s0 _).mono ?_
  rintro e w1 ⟨rfl, rfl⟩
  have hb1 : Below w.heap.size w (w.alloc (.cells #[.string s0] 9)) := (Below.refl _ _).alloc (Nat.le_refl _) _
  have hM0 : Hid (IsM (stL l) (w.alloc (.cells #[.string s0] 9)) 0 (.func (.func 59) #[] #[.pointer (some ⟨w.heap.size, 0, none⟩)])) := ⟨_, rfl, by rw [h0.out]; exact Box.new w _ _⟩
  generalize w.alloc (.cells #[.string s0] 9) = W1 at hb1 hM0
  clear z0 h0
  go_wp2_with fail
  go_loopw [3, 14] (fun v i wr => ∃ j : Nat, j ≤ L ∧ i = .int .i64 j ∧ Below w.heap.size w wr ∧ Hid (IsM (stL l) wr j v)) (fun _ i _ => L - (intOf i).toNat)
  case atStart => exact ⟨0, Nat.zero_le _, rfl, hb1, hM0⟩
  case round =>
    obtain ⟨j, hj, rfl, hb, hM⟩ := hrel
    by_cases hlt : j < L
    · have e := ha.out (by omega)
      subst e
      obtain ⟨cs, hcl, lie, hr⟩ := hc'.out (j + 1) (by omega)
      have lie1 := Lie.keep (lo := lo) (lo' := lo) lie (.of_below hb) hlo hbb
      obtain ⟨rfl, _⟩ := hr
      have e0 : (stL l (j + 1)) = l[j + 1] := stL_get (by omega)
      have y0 := lie1 0 (by simp)
      have y1 := lie1 1 (by simp)
      simp only [List.getElem?_cons_zero, List.getElem?_cons_succ, Nat.add_zero] at y0 y1
      rw [show off + (j + 1) * 2 = off + 2 + j * 2 by omega] at y0 y1
      rw [← e0] at y0 y1
      have hs : Hid ((stL l (j + 1)).vTag = (stL l (j + 1)).vTag) := rfl
      clear lie lie1 hcl e0
      generalize hT : (stL l (j + 1)).vTag = T at y0
      generalize hD : (stL l (j + 1)).vDeep = D at y1
      have hT' : Hid ((stL l (j + 1)).vTag = T) := hT
      have hD' : Hid ((stL l (j + 1)).vDeep = D) := hD
      clear hT hD hs
      go_wp2_with fail
      have hbA : Below wr.heap.size wr (wr.alloc (.cells #[.string T, .bool D] 49)) := (Below.refl _ _).alloc (Nat.le_refl _) _
      refine (matchesBehind_any (IsM.below hbA hM.out) hT'.out hD'.out).mono ?_
      rintro e w2 ⟨⟨v2, rfl, hM2⟩, hb2⟩
      have hM2' : Hid (IsM (stL l) w2 (j + 1) v2) := hM2
      clear hM2
      go_wp2_with fail
      go_roundw
      case rel => exact ⟨j + 1, by omega, by go_num, hb.trans ((hbA.trans (hb2.mono hbA.size)).mono hb.size), hM2'⟩
      case measure => simp [intOf]; omega
    · go_wp2_with fail
      go_ret
      refine ⟨⟨_, rfl, ?_⟩, hb⟩
      have e : l.length - 1 = j := by have := hL'.out; omega
      rw [e]
      exact hM.out
theorem way_tags {H : Type} {w w' : World} {lo lo2 n : Nat} {kw : Value} {d : DataW H} {path : List Int} {j : Nat} (h : SeqAt 2 (WayA w lo n) w' lo2 kw (wayJ d path j)) : SeqAt 2 TagA w' lo2 kw ((wayJ d path j).map strT) :=
  h.mapped fun cs x hx => by obtain ⟨m, a, c, e, _⟩ := hx; exact ⟨_, e⟩
theorem selB_pos {l : List StepD} (h : selB l = true) : 1 ≤ l.length := by
  rcases Nat.lt_or_ge l.length 1 with q | q
  · rw [selB_short q] at h; cases h
  · exact q
set_option maxHeartbeats 4000000 in
theorem implMatches_any {H : Type} {n : Nat} {w : World} {lo lo2 lo3 : Nat} {t k kp kl : Value} {d : DataW H} {path : List Int} {l : List StepD} (ht : TreeAt w lo n t k d) (hp : SeqAt 1 IntAt w lo2 kp path) (hpl : path.length ≤ 1048576) (hl : SeqAt 2 StepAt w lo3 kl l) :
    Calls Try.prog 23 #[.agg #[t, k], kp, kl] w fun e w' => e = .returned (.bool (matchD (okB (szD n d 30)) d path l)) ∧ Below w.heap.size w w' := by
  obtain ⟨rfl, _⟩ := ht.tag
  obtain ⟨_, a0, cap0, rfl⟩ := ht.form
  have ht0 : Hid (TreeAt w lo n _ _ d) := ht
  have hp0 : Hid (SeqAt 1 IntAt w lo2 kp path) := hp
  have hl0 : Hid (SeqAt 2 StepAt w lo3 kl l) := hl
  clear ht hp hl
  have hb0 : Hid (Below w.heap.size w (w.alloc (.cells #[.string (strT d), .slice a0 (kidsOf d).length cap0] 26))) := (Below.refl _ _).alloc (Nat.le_refl _) _
  go_enter Try.func23, Try.ntmps23
  go_wp2_with fail
  refine (wayTo_any (ht0.out.below hb0.out) (hp0.out.below intAt_stays hb0.out) hpl).mono ?_
  rintro e w1 ⟨hres, hb1⟩
  have hB1 : Hid (Below w.heap.size w w1) := hb0.out.trans (hb1.mono hb0.out.size)
  clear hb1
  rcases hres with ⟨hok, hoP, kw, rfl, hway⟩ | ⟨hno, rfl⟩
  · have hway' : Hid (SeqAt 2 TagA w1 (w.alloc (.cells #[.string (strT d), .slice a0 (kidsOf d).length cap0] 26)).heap.size kw ((wayJ d path path.length).map strT)) := way_tags hway
    have hok' : Hid (okB (szD n d 30) = true) := hok
    have hoP' : Hid (okP d path = true) := hoP
    clear hway hok hoP
    go_wp2_with fail
    refine (implSelOk_any (hl0.out.below StepAt_stays hB1.out)).mono ?_
    rintro e w2 ⟨rfl, hb2⟩
    have hB2 : Hid (Below w.heap.size w w2) := hB1.out.trans (hb2.mono hB1.out.size)
    have hway2 : Hid (SeqAt 2 TagA w2 (w.alloc (.cells #[.string (strT d), .slice a0 (kidsOf d).length cap0] 26)).heap.size kw ((wayJ d path path.length).map strT)) := hway'.out.below tagA_stays hb2
    clear hb2 hway'
    rcases two_b (selB l) with hs | hs
    · have H : Hid (matchD (okB (szD n d 30)) d path l = false) := by show _ = _; unfold matchD; rw [hs]; simp
      rw [hs]
      clear hs
      go_wp2_with fail
      go_ret
      exact ⟨by rw [H.out]; rfl, hB2.out⟩
    have H : Hid (matchD (okB (szD n d 30)) d path l = mB (stL l) (tgP d path) (l.length - 1) path.length) := by show _ = _; unfold matchD; rw [hs, hok'.out, hoP'.out]; simp
    have hl1 : Hid (1 ≤ l.length) := selB_pos hs
    rw [hs]
    clear hs
    go_wp2_with fail
    refine (matcherOf_any (hl0.out.below StepAt_stays hB2.out) hl1.out).mono ?_
    rintro e w3 ⟨⟨v, rfl, hM⟩, hb3⟩
    have hB3 : Hid (Below w.heap.size w w3) := hB2.out.trans (hb3.mono hB2.out.size)
    have happ : Hid (AppV v kw w3 (mB (stL l) (tgP d path) (l.length - 1) path.length)) :=
      mC_all (stL l) (tgP d path) (l.length - 1) w3 kw v _ _ path.length hM (hway2.out.below tagA_stays hb3) (by simp [wayJ]) (fun i hi => by rw [List.getElem_map, wayJ_get]; rfl)
    clear hb3
    generalize hN : l.length - 1 = N at hM happ H
    cases N with
    | zero =>
      obtain ⟨g, rfl, _⟩ := hM
      go_wp2_with fail
      refine (happ.out 59 _ rfl).mono ?_
      rintro e w4 ⟨rfl, m, rfl⟩
      go_wp2_with fail
      go_ret
      exact ⟨by rw [H.out]; rfl, below_drewN hB3.out m⟩
    | succ N =>
      obtain ⟨g1, g2, g3, vo, va, rfl, _⟩ := hM
      go_wp2_with fail
      refine (happ.out 60 _ rfl).mono ?_
      rintro e w4 ⟨rfl, m, rfl⟩
      go_wp2_with fail
      go_ret
      exact ⟨by rw [H.out]; rfl, below_drewN hB3.out m⟩
  · have H : Hid (matchD (okB (szD n d 30)) d path l = false) := by show _ = _; unfold matchD; rw [hno]; simp
    clear hno
    go_wp2_with fail
    go_ret
    exact ⟨by rw [H.out]; rfl, hB1.out⟩
end Go.Proofs.Ytgmgbjeejlkdmaa
