/- Trees that own their memory, level by level, and lie there. -/
import Derived.Test.YtlcddndpfhdakaaDoorTreeO
import Derived.Test.YtlcddndpfhdakaaDoorGrowK
import Derived.Test.YtlcddndpfhdakaaDoorTakeLit
namespace Go.Proofs.YtlcddndpfhdakaaDoor
open Go.RowKit Go.Deep
abbrev resT : List Value := [.string ⟨#[]⟩, .slice none 0 0]
def TreeOwn : Nat → World → List Value → TD → List Nat → Prop
  | 0, _, _, _, _ => False
  | n + 1, w, cs, x, fs => ∃ (s : ByteArray) (k : Value), cs = [.string s, k] ∧ s.size ≤ maxLen ∧ tagOf x = s.data.toList ∧ SeqOwn 2 (TreeOwn n) w k (kidsOf x) fs
theorem TreeOwn_stays : ∀ n, OwnStays (TreeOwn n) := by
  intro n
  induction n with
  | zero => intro w w' cs x fs _ h; exact h
  | succ n ih =>
    intro w w' cs x fs q h
    obtain ⟨s, k, e, h1, h2, h3⟩ := h
    exact ⟨s, k, e, h1, h2, h3.stays ih q⟩
theorem TreeOwn_lt : ∀ n, OwnLt (TreeOwn n) := by
  intro n
  induction n with
  | zero => intro w cs x fs h; exact h.elim
  | succ n ih =>
    intro w cs x fs h
    obtain ⟨s, k, e, h1, h2, h3⟩ := h
    exact h3.lt ih
/-- it lies there as the elder texts say -/
def TreeLies (n : Nat) (w : World) (lo : Nat) (cs : List Value) (x : TD) : Prop := ∃ t k, cs = [t, k] ∧ TreeAt w lo n t k x
theorem row_of_seq {n : Nat} {w : World} {lo : Nat} {k : Value} {xs : List TD} (h : SeqAt 2 (TreeLies n) w lo k xs) : RowAt (TreeAt w lo n) w lo k xs := by
  obtain ⟨a, cap, e, hm, hx⟩ := h
  refine ⟨a, cap, e, hm.1, fun h0 => ?_⟩
  obtain ⟨b, off, ha, h1, h2, hc⟩ := hx h0
  refine ⟨b, off, ha, h1, h2, fun i hi => ?_⟩
  obtain ⟨cs, hl, lie, t, k, rfl, r⟩ := hc i hi
  have z0 := lie 0 (by simp)
  have z1 := lie 1 (by simp)
  simp only [List.getElem?_cons_zero, List.getElem?_cons_succ, Nat.add_zero] at z0 z1
  refine ⟨t, k, z0, z1, ?_⟩
  have : nth xs i = xs[i] := by simp [nth, List.getD, List.getElem?_eq_getElem hi]
  rw [this]; exact r
theorem TreeOwn_at {lo : Nat} : ∀ (n : Nat) (w : World) (cs : List Value) (x : TD) (fs : List Nat), TreeOwn n w cs x fs → (∀ b ∈ fs, lo ≤ b) → TreeLies n w lo cs x := by
  intro n
  induction n with
  | zero => intro w cs x fs h _; exact h.elim
  | succ n ih =>
    intro w cs x fs h q
    obtain ⟨s, k, e, h1, h2, h3⟩ := h
    exact ⟨_, _, e, ⟨s, rfl, h1, h2⟩, row_of_seq (h3.at ih q)⟩
/-- its kids are drawn -/
def KtSt (n : Nat) (w : World) (g : Nat) (a : Option Addr) (nn cap T base : Nat) (tag : ByteArray) (vk : Value) (xs : List TD) (wr : World) : Prop :=
  (∃ bss css, GrowOwn 36 2 (TreeOwn n) base wr vk xs bss css) ∧ Box wr T [.string tag, vk] 36 ∧ Box wr w.heap.size resT 36 ∧ RdAt wr g a nn cap ∧ w.grownBy wr (some g) ∧ base ≤ wr.heap.size ∧ g < w.heap.size ∧ w.heap.size < T ∧ T < base
theorem KtSt.grown {n : Nat} {w : World} {g : Nat} {a : Option Addr} {nn cap T base : Nat} {tag : ByteArray} {vk : Value} {xs : List TD} {wr w2 : World} (h : KtSt n w g a nn cap T base tag vk xs wr) (hg : wr.grownBy w2 (some g)) (hr : RdAt w2 g a nn cap) : KtSt n w g a nn cap T base tag vk xs w2 := by
  obtain ⟨⟨bss, css, h1⟩, h2, h4, h5, h6, h7, h8, h9, h10⟩ := h
  have s := hg.size
  exact ⟨⟨bss, css, h1.stay (TreeOwn_stays n) s (fun b q1 q2 => hg.block b q2 (fun e => by injection e; omega))⟩, box_other h2 (by omega) hg, box_other h4 (by omega) hg, hr, h6.trans hg, by omega, h8, h9, h10⟩
theorem KtSt.step {n : Nat} {w : World} {g : Nat} {a : Option Addr} {nn cap T base n1 capn gg : Nat} {tag : ByteArray} {vk : Value} {xs : List TD} {wr w1 w3 : World} {o : Obj} {x : TD} {cs : List Value} {fs : List Nat} {css : List (List Value)} {bss : List (List Nat)} (h : KtSt n w g a nn cap T base tag vk xs wr) (hgr : GrowOwn 36 2 (TreeOwn n) base wr vk xs bss css) (hg1 : wr.grownBy w1 (some g)) (hrd : RdAt w1 g a nn cap)
    (hr : TreeOwn n w1 cs x fs) (hnd : fs.Nodup) (hlo : ∀ b ∈ fs, wr.heap.size ≤ b) (hcl : cs.length = 2) (hn1 : n1 = xs.length + 1) (hown : w3.ownsRow base 36 2 (.slice (some ⟨gg, 0, none⟩) n1 capn) n1 (css.flatten ++ cs)) (hgrow : (w1.alloc o).grownBy w3 vk.ownBlock) (hat : vk.ownBlock = some gg ∨ gg = (w1.alloc o).heap.size) :
    KtSt n w g a nn cap T base tag (.slice (some ⟨gg, 0, none⟩) n1 capn) (xs ++ [x]) (w3.setCell ⟨T, 1, none⟩ (.slice (some ⟨gg, 0, none⟩) n1 capn)) := by
  obtain ⟨_, h2, h4, h5, h6, h7, h8, h9, h10⟩ := h
  obtain ⟨q1, q2, q3, q4, q5, q6⟩ := grow_fin (f := 1) (TreeOwn_stays n) hgr hg1 (by omega) (by omega) h7 hcl hr hnd hlo (TreeOwn_lt n _ _ _ _ hr) hn1 hown hgrow hat h2 hrd h6 (by omega)
  exact ⟨⟨_, _, q1⟩, q2, (q5 w.heap.size (by omega) (by omega) (by omega)).trans h4, q3, q4, q6, h8, h9, h10⟩
theorem KtSt.done {n : Nat} {w : World} {g : Nat} {a : Option Addr} {nn cap T base : Nat} {tag : ByteArray} {vk : Value} {xs : List TD} {wr w' : World} (h : KtSt n w g a nn cap T base tag vk xs wr) (ht : tag.size ≤ maxLen) (hk : ∀ b, b ≠ w.heap.size → w'.heap[b]? = wr.heap[b]?) (hs : wr.heap.size ≤ w'.heap.size) (ho : w'.os = wr.os ∧ w'.tape = wr.tape ∧ w'.output = wr.output) :
    ∃ (x : TD) (fs : List Nat), TreeOwn (n + 1) w' [.string tag, vk] x fs ∧ fs.Nodup ∧ (∀ b ∈ fs, w.heap.size + 1 ≤ b) ∧ RdAt w' g a nn cap ∧ w.grownBy w' (some g) := by
  obtain ⟨⟨bss, css, h1⟩, h2, h4, h5, h6, h7, h8, h9, h10⟩ := h
  obtain ⟨f3, q3, q3b⟩ := h1.done
  refine ⟨mkT tag xs, f3, ⟨tag, vk, rfl, ht, rfl, ?_⟩, q3.nodup, fun b q => by have := q3b b q; omega, h5.keep (fun b q => hk b (by omega)), ?_⟩
  · rw [mkT_kids]; exact q3.stays (TreeOwn_stays n) (fun b q => hk b (by have := q3b b q; omega))
  · exact ⟨ho.1.trans h6.os, ho.2.1.trans h6.tape, ho.2.2.trans h6.output, Nat.le_trans h6.size hs, fun b hb hne => (hk b (by omega)).trans (h6.block b hb hne)⟩
end Go.Proofs.YtlcddndpfhdakaaDoor
namespace Go.Proofs.YtlcddndpfhdakaaDoor
open Go.RowKit
theorem infoTr : ((Tryd.prog.info? 36).map fun i => (i.zero, i.bytes, i.size)) = some (some (.agg #[.string ByteArray.empty, .slice none 0 0]), 40, 2) := by kernel_rfl
def tags4 : List ByteArray := [⟨#[97]⟩, ⟨#[100, 105, 118]⟩, ⟨#[112]⟩, ⟨#[97, 98, 99, 100, 101, 102]⟩]
def DrT (n : Nat) : Prop := 1 ≤ n → n ≤ 5 → ∀ (w : World) (g : Nat) (a : Option Addr) (nn cap : Nat) (deep : Int), RdAt w g a nn cap → deep = 5 - (n : Int) →
  Calls Tryd.prog 70 #[.pointer (some ⟨g, 0, none⟩), .int .i64 deep] w fun e w' => ∃ (cs : List Value) (x : TD) (fs : List Nat), e = .returned (.agg cs.toArray) ∧ TreeOwn n w' cs x fs ∧ fs.Nodup ∧ (∀ b ∈ fs, w.heap.size + 1 ≤ b) ∧ RdAt w' g a nn cap ∧ w.grownBy w' (some g)
set_option maxRecDepth 100000 in
set_option maxHeartbeats 4000000 in
theorem drT_of (n : Nat) (hS : Hid (DrT n)) : DrT (n + 1) := by
  intro _ hn4 w g a nn cap deep hrd hdeep
  have hlt := hrd.lt
  have hrd' : Hid (RdAt w g a nn cap) := hrd
  have hdeep' : Hid (deep = 4 - (n : Int)) := by show _ = _; rw [hdeep]; omega
  have hd0 : 0 ≤ deep := by omega
  have hd9 : deep ≤ 5 := by omega
  have hn4' : Hid (n + 1 ≤ 5) := hn4
  have hwd : IntKind.i64.wrap (deep + 1) = deep + 1 := by rw [IntKind.wrap_i64]; omega
  clear hrd hdeep hn4
  obtain ⟨iT, hiT0, heT0⟩ := Option.map_eq_some_iff.1 infoTr
  simp only [Prod.mk.injEq] at heT0
  have hiT : Hid (Tryd.prog.info? 36 = some iT) := hiT0
  have heT : Hid (iT.zero = some (.agg #[.string ByteArray.empty, .slice none 0 0]) ∧ iT.bytes = 40 ∧ iT.size = 2) := heT0
  clear hiT0 heT0
  have hb0 : Hid (Below w.heap.size w ((w.alloc (.cells #[.string ⟨#[]⟩, .slice none 0 0] 36)).alloc (.cells (tags4.map Value.string).toArray 9))) := ((Below.refl _ _).alloc (Nat.le_refl _) _).alloc (by simp) _
  have bx0 : Hid (Box ((w.alloc (.cells #[.string ⟨#[]⟩, .slice none 0 0] 36)).alloc (.cells (tags4.map Value.string).toArray 9)) (w.heap.size + 1) (tags4.map Value.string) 9) := by have := Box.new (w.alloc (.cells #[.string ⟨#[]⟩, .slice none 0 0] 36)) (tags4.map Value.string) 9; simpa [Hid] using this
  have br0 : Hid (Box ((w.alloc (.cells #[.string ⟨#[]⟩, .slice none 0 0] 36)).alloc (.cells (tags4.map Value.string).toArray 9)) w.heap.size resT 36) := (Box.new w _ _).alloc _
  go_enter Tryd.func70, Tryd.ntmps70
  go_wp2_with fail
  refine (below_any (RdAt.below hrd'.out hb0.out) 4 (by omega) (by omega)).mono ?_
  rintro e w1 ⟨v, rfl, v0, v1, hr1, hg1⟩
  have hr1' : Hid (RdAt w1 g a nn cap) := hr1
  have hg1' : Hid (w.grownBy w1 (some g)) := (grown_of_below hb0.out _).trans hg1
  have hz1 : w.heap.size + 2 ≤ w1.heap.size := by have := hg1.size; simpa using this
  have br1 : Hid (Box w1 w.heap.size resT 36) := box_other br0.out (by omega) hg1
  have bx1 : Hid (Box w1 (w.heap.size + 1) (tags4.map Value.string) 9) := box_other bx0.out (by omega) hg1
  obtain ⟨k, rfl⟩ := Int.eq_ofNat_of_zero_le v0
  have hk : k < tags4.length := by show k < 4; omega
  have hc := box_str bx1.out k hk
  have hsz : Hid (tags4[k].size ≤ 6) := mem_le (by decide) k hk
  generalize tags4[k] = tag at hc hsz
  have hk4 : (k : Int) < 4 := by omega
  clear hr1 hg1
  go_wp2_with fail
  have hbA : Below w1.heap.size w1 (w1.alloc (.cells #[.string tag, .slice none 0 0] 36)) := (Below.refl _ _).alloc (Nat.le_refl _) _
  have hk0 : Hid (KtSt n w g a nn cap w1.heap.size (w1.heap.size + 1) tag (.slice none 0 0) [] (w1.alloc (.cells #[.string tag, .slice none 0 0] 36))) := ⟨⟨[], [], GrowOwn.nil⟩, Box.new w1 _ _, br1.out.alloc _, RdAt.below hr1'.out hbA, hg1'.out.trans (grown_of_below hbA _), by simp, hlt, by omega, by omega⟩
  refine (below_any hk0.out.2.2.2.1 4 (by omega) (by omega)).mono ?_
  rintro e w7 ⟨u, rfl, u0, u1, hr7, hg7⟩
  have hk7 : Hid (KtSt n w g a nn cap w1.heap.size (w1.heap.size + 1) tag (.slice none 0 0) [] w7) := KtSt.grown hk0.out hg7 hr7
  generalize hbase : w1.heap.size + 1 = base at hk7
  clear hbase hr7 hg7 hk0 hbA hc
  go_wp2_with fail
  go_loopw [6] (fun iv wr => ∃ (i : Int) (vk : Value) (xs : List TD), 0 ≤ i ∧ i ≤ u ∧ iv = .int .i64 i ∧ Hid ((xs.length : Int) ≤ u - i) ∧ Hid (KtSt n w g a nn cap w1.heap.size base tag vk xs wr)) (fun iv _ => (intOf iv).toNat)
  case atStart => exact ⟨u, .slice none 0 0, [], u0, by omega, rfl, by show ((0 : Nat) : Int) ≤ u - u; omega, hk7⟩
  case round =>
    obtain ⟨i, vk, xs, i0, i1, rfl, hxl, hst⟩ := hrel
    by_cases hi : 0 < i
    · by_cases hd : deep < 4
      · have hst2 : Hid (KtSt n w g a nn cap w1.heap.size base tag vk xs wr) := hst
        have hrd2 : Hid (RdAt wr g a nn cap) := hst.out.2.2.2.1
        generalize wr = w2 at *
        obtain ⟨⟨bss, css, hgr⟩, bTr0, _, _, _, hbs, hgw, hwT, hTb⟩ := id hst2.out
        obtain ⟨av, capv, rfl⟩ := hgr.form
        have bTr : Hid (Box w2 w1.heap.size [.string tag, .slice av xs.length capv] 36) := bTr0
        have hvb := own_ge hgr
        clear bTr0
        go_wp2_with fail
        refine wp_region_held_drew (S := fun w' => True) (by kernel_rfl) trivial (fun hHeld => ?_)
        refine tq (i := 0) (d := 23) ?_
        simp only [sz, ss]
        refine tq (i := 2) (d := 25) ?_
        simp only [sz, ss]
        refine tq (i := 3) (d := 26) ?_
        simp only [sz, ss]
        refine tq (i := 4) (d := 27) ?_
        simp only [sz, ss]
        refine wpAnyH_ready (rs := [1, 5]) (by kernel_rfl) (by simp) ?_
        refine (AllReadyH.cons rfl (fun K hK => ?_) (AllReadyH.cons rfl (fun K hK => ?_) AllReadyH.nil))
        · have cT : w2.drew.cell? ⟨w1.heap.size, 1, none⟩ = some (.slice av xs.length capv) := bTr.out.cell 1 rfl
          go_simp
          clear cT
          refine hK.out _ _ trivial (fun hHeld => ?_)
          clear hK K
          refine wpAnyH_ready (rs := [5]) (by kernel_rfl) (by simp) ?_
          refine AllReadyH.cons rfl (fun K hK => ?_) AllReadyH.nil
          go_simp
          refine (hS.out (by have := hdeep'.out; omega) (by have := hn4'.out; omega) _ g a nn cap (deep + 1) (by exact hrd2.out) (by have := hdeep'.out; omega)).mono ?_
          rintro e w4 ⟨csk, xk, fsk, rfl, hok, hndk, hlok, hr4, hg4⟩
          obtain ⟨kt, b3, l3, c3, rfl⟩ : ∃ (kt : ByteArray) (b3 : Option Addr) (l3 c3 : Nat), csk = [.string kt, .slice b3 l3 c3] := by cases n with | zero => exact hok.elim | succ n => (obtain ⟨s, k, e, _, _, h3⟩ := hok; obtain ⟨y1, y2, y3⟩ := h3.form; exact ⟨s, y1, _, y2, by rw [e, y3]⟩)
          have hok' : Hid (TreeOwn n w4 _ xk fsk) := hok
          have hndk' : Hid (fsk.Nodup) := hndk
          have hlok' : Hid (∀ b ∈ fsk, w2.heap.size ≤ b) := fun b hb => Nat.le_of_succ_le (hlok b hb)
          clear hok hndk hlok
          have hg4' : Hid (w2.grownBy w4 (some g)) := ⟨hg4.os, hg4.tape, hg4.output, hg4.size, hg4.block⟩
          have hr4' : Hid (RdAt w4 g a nn cap) := hr4
          have bT4 : Hid (Box w4 (w1.heap.size) [.string tag, .slice av xs.length capv] 36) := box_other bTr.out (by omega) hg4'.out
          have hz4 := hg4'.out.size
          clear hg4 hr4
          refine hK.out _ _ trivial (fun hHeld => ?_)
          clear hK K
          refine wpAnyH_ready (rs := [6]) (by kernel_rfl) (by simp) ?_
          refine AllReadyH.cons rfl (fun K hK => ?_) AllReadyH.nil
          go_simp
          refine hK.out _ _ trivial (fun hHeld => ?_)
          clear hK K
          refine wpAnyH_ready (rs := [7]) (by kernel_rfl) (by simp) ?_
          refine AllReadyH.cons rfl (fun K hK => ?_) AllReadyH.nil
          refine step_append_lies (w4.alloc (.cells #[.string kt, .slice b3 l3 c3] 36)) rfl _ _ 34 rfl _ 36 iT _ 2 40 Tryd.underlying34 hiT.out heT.out.1 heT.out.2.2 heT.out.2.1 rfl (by decide) (.slice av xs.length capv) xs.length css.flatten rfl ((GrowOwn.stay (TreeOwn_stays n) hgr (w' := (w4.alloc (.cells #[.string kt, .slice b3 l3 c3] 36))) (by simp; omega) (fun b q1 q2 => by rw [Below.heap_alloc _ _ _ (by omega), hg4'.out.block b q2 (fun e => by injection e with e; omega)])).row) ⟨w4.heap.size, 0, none⟩ 1 1 [.string kt, .slice b3 l3 c3] rfl rfl (by intro i u hu; match i, hu with | 0, hu => (simp at hu; subst hu; simp [Addr.add]) | 1, hu => (simp at hu; subst hu; simp [Addr.add]) | i + 2, hu => simp at hu) (by intro u hu; simp at hu; rcases hu with rfl | rfl <;> rfl) (by omega) (by have := hxl.out; unfold maxLen; omega) (by have := hxl.out; omega) (by simp; omega) _ rfl ?_
          intro g3 capg w5 hown5 hgrow5 hat5 hlt5
          have bT5 : Hid (Box w5 (w1.heap.size) [.string tag, .slice av xs.length capv] 36) := (hgrow5.block (w1.heap.size) (by simp; omega) (by intro e; have := hvb _ e.symm; omega)).trans (bT4.out.alloc _)
          go_simp
          refine hK.out _ _ trivial (fun hHeld => ?_)
          clear hK K
          refine tq (i := 8) (d := 31) ?_
          simp only [sz, ss]
          refine wpAnyH_ready (rs := [9]) (by kernel_rfl) (by simp) ?_
          refine AllReadyH.cons rfl (fun K hK => ?_) AllReadyH.nil
          have cT5 := bT5.out.cell 1 rfl
          have fT5 := bT5.out.unfrozen 1
          go_simp
          refine hK.out _ _ trivial (fun hHeld => ?_)
          clear hK K
          refine wpAnyH_done (by kernel_rfl) ?_ _
          have hst4 : Hid (KtSt n w g a nn cap w1.heap.size base tag _ _ _) := KtSt.step hst2.out hgr hg4'.out hr4'.out hok'.out hndk'.out hlok'.out rfl rfl hown5 hgrow5 hat5
          go_wp2_with fail
          go_roundw
          case rel => exact ⟨i - 1, _, xs ++ [_], by omega, by omega, by go_num, by show _ ≤ _; have := hxl.out; simp; omega, hst4⟩
          case measure => simp [intOf]; omega
        · go_simp
          refine (hS.out (by have := hdeep'.out; omega) (by have := hn4'.out; omega) _ g a nn cap (deep + 1) (by exact hrd2.out) (by have := hdeep'.out; omega)).mono ?_
          rintro e w4 ⟨csk, xk, fsk, rfl, hok, hndk, hlok, hr4, hg4⟩
          obtain ⟨kt, b3, l3, c3, rfl⟩ : ∃ (kt : ByteArray) (b3 : Option Addr) (l3 c3 : Nat), csk = [.string kt, .slice b3 l3 c3] := by cases n with | zero => exact hok.elim | succ n => (obtain ⟨s, k, e, _, _, h3⟩ := hok; obtain ⟨y1, y2, y3⟩ := h3.form; exact ⟨s, y1, _, y2, by rw [e, y3]⟩)
          have hok' : Hid (TreeOwn n w4 _ xk fsk) := hok
          have hndk' : Hid (fsk.Nodup) := hndk
          have hlok' : Hid (∀ b ∈ fsk, w2.heap.size ≤ b) := fun b hb => Nat.le_of_succ_le (hlok b hb)
          clear hok hndk hlok
          have hg4' : Hid (w2.grownBy w4 (some g)) := ⟨hg4.os, hg4.tape, hg4.output, hg4.size, hg4.block⟩
          have hr4' : Hid (RdAt w4 g a nn cap) := hr4
          have bT4 : Hid (Box w4 (w1.heap.size) [.string tag, .slice av xs.length capv] 36) := box_other bTr.out (by omega) hg4'.out
          have hz4 := hg4'.out.size
          clear hg4 hr4
          refine hK.out _ _ trivial (fun hHeld => ?_)
          clear hK K
          refine wpAnyH_ready (rs := [1, 6]) (by kernel_rfl) (by simp) ?_
          refine (AllReadyH.cons rfl (fun K hK => ?_) (AllReadyH.cons rfl (fun K hK => ?_) AllReadyH.nil))
          · have cT : w4.cell? ⟨w1.heap.size, 1, none⟩ = some (.slice av xs.length capv) := bT4.out.cell 1 rfl
            go_simp
            clear cT
            refine hK.out _ _ trivial (fun hHeld => ?_)
            clear hK K
            refine wpAnyH_ready (rs := [6]) (by kernel_rfl) (by simp) ?_
            refine AllReadyH.cons rfl (fun K hK => ?_) AllReadyH.nil
            go_simp
            refine hK.out _ _ trivial (fun hHeld => ?_)
            clear hK K
            refine wpAnyH_ready (rs := [7]) (by kernel_rfl) (by simp) ?_
            refine AllReadyH.cons rfl (fun K hK => ?_) AllReadyH.nil
            refine step_append_lies (w4.alloc (.cells #[.string kt, .slice b3 l3 c3] 36)) rfl _ _ 34 rfl _ 36 iT _ 2 40 Tryd.underlying34 hiT.out heT.out.1 heT.out.2.2 heT.out.2.1 rfl (by decide) (.slice av xs.length capv) xs.length css.flatten rfl ((GrowOwn.stay (TreeOwn_stays n) hgr (w' := (w4.alloc (.cells #[.string kt, .slice b3 l3 c3] 36))) (by simp; omega) (fun b q1 q2 => by rw [Below.heap_alloc _ _ _ (by omega), hg4'.out.block b q2 (fun e => by injection e with e; omega)])).row) ⟨w4.heap.size, 0, none⟩ 1 1 [.string kt, .slice b3 l3 c3] rfl rfl (by intro i u hu; match i, hu with | 0, hu => (simp at hu; subst hu; simp [Addr.add]) | 1, hu => (simp at hu; subst hu; simp [Addr.add]) | i + 2, hu => simp at hu) (by intro u hu; simp at hu; rcases hu with rfl | rfl <;> rfl) (by omega) (by have := hxl.out; unfold maxLen; omega) (by have := hxl.out; omega) (by simp; omega) _ rfl ?_
            intro g3 capg w5 hown5 hgrow5 hat5 hlt5
            have bT5 : Hid (Box w5 (w1.heap.size) [.string tag, .slice av xs.length capv] 36) := (hgrow5.block (w1.heap.size) (by simp; omega) (by intro e; have := hvb _ e.symm; omega)).trans (bT4.out.alloc _)
            go_simp
            refine hK.out _ _ trivial (fun hHeld => ?_)
            clear hK K
            refine tq (i := 8) (d := 31) ?_
            simp only [sz, ss]
            refine wpAnyH_ready (rs := [9]) (by kernel_rfl) (by simp) ?_
            refine AllReadyH.cons rfl (fun K hK => ?_) AllReadyH.nil
            have cT5 := bT5.out.cell 1 rfl
            have fT5 := bT5.out.unfrozen 1
            go_simp
            refine hK.out _ _ trivial (fun hHeld => ?_)
            clear hK K
            refine wpAnyH_done (by kernel_rfl) ?_ _
            have hst4 : Hid (KtSt n w g a nn cap w1.heap.size base tag _ _ _) := KtSt.step hst2.out hgr hg4'.out hr4'.out hok'.out hndk'.out hlok'.out rfl rfl hown5 hgrow5 hat5
            go_wp2_with fail
            go_roundw
            case rel => exact ⟨i - 1, _, xs ++ [_], by omega, by omega, by go_num, by show _ ≤ _; have := hxl.out; simp; omega, hst4⟩
            case measure => simp [intOf]; omega
          · go_simp
            refine hK.out _ _ trivial (fun hHeld => ?_)
            clear hK K
            refine wpAnyH_ready (rs := [1]) (by kernel_rfl) (by simp) ?_
            refine AllReadyH.cons rfl (fun K hK => ?_) AllReadyH.nil
            have cT : (w4.alloc (.cells #[.string kt, .slice b3 l3 c3] 36)).cell? ⟨w1.heap.size, 1, none⟩ = some (.slice av xs.length capv) := (bT4.out.alloc _).cell 1 rfl
            go_simp
            clear cT
            refine hK.out _ _ trivial (fun hHeld => ?_)
            clear hK K
            refine wpAnyH_ready (rs := [7]) (by kernel_rfl) (by simp) ?_
            refine AllReadyH.cons rfl (fun K hK => ?_) AllReadyH.nil
            refine step_append_lies (w4.alloc (.cells #[.string kt, .slice b3 l3 c3] 36)) rfl _ _ 34 rfl _ 36 iT _ 2 40 Tryd.underlying34 hiT.out heT.out.1 heT.out.2.2 heT.out.2.1 rfl (by decide) (.slice av xs.length capv) xs.length css.flatten rfl ((GrowOwn.stay (TreeOwn_stays n) hgr (w' := (w4.alloc (.cells #[.string kt, .slice b3 l3 c3] 36))) (by simp; omega) (fun b q1 q2 => by rw [Below.heap_alloc _ _ _ (by omega), hg4'.out.block b q2 (fun e => by injection e with e; omega)])).row) ⟨w4.heap.size, 0, none⟩ 1 1 [.string kt, .slice b3 l3 c3] rfl rfl (by intro i u hu; match i, hu with | 0, hu => (simp at hu; subst hu; simp [Addr.add]) | 1, hu => (simp at hu; subst hu; simp [Addr.add]) | i + 2, hu => simp at hu) (by intro u hu; simp at hu; rcases hu with rfl | rfl <;> rfl) (by omega) (by have := hxl.out; unfold maxLen; omega) (by have := hxl.out; omega) (by simp; omega) _ rfl ?_
            intro g3 capg w5 hown5 hgrow5 hat5 hlt5
            have bT5 : Hid (Box w5 (w1.heap.size) [.string tag, .slice av xs.length capv] 36) := (hgrow5.block (w1.heap.size) (by simp; omega) (by intro e; have := hvb _ e.symm; omega)).trans (bT4.out.alloc _)
            go_simp
            refine hK.out _ _ trivial (fun hHeld => ?_)
            clear hK K
            refine tq (i := 8) (d := 31) ?_
            simp only [sz, ss]
            refine wpAnyH_ready (rs := [9]) (by kernel_rfl) (by simp) ?_
            refine AllReadyH.cons rfl (fun K hK => ?_) AllReadyH.nil
            have cT5 := bT5.out.cell 1 rfl
            have fT5 := bT5.out.unfrozen 1
            go_simp
            refine hK.out _ _ trivial (fun hHeld => ?_)
            clear hK K
            refine wpAnyH_done (by kernel_rfl) ?_ _
            have hst4 : Hid (KtSt n w g a nn cap w1.heap.size base tag _ _ _) := KtSt.step hst2.out hgr hg4'.out hr4'.out hok'.out hndk'.out hlok'.out rfl rfl hown5 hgrow5 hat5
            go_wp2_with fail
            go_roundw
            case rel => exact ⟨i - 1, _, xs ++ [_], by omega, by omega, by go_num, by show _ ≤ _; have := hxl.out; simp; omega, hst4⟩
            case measure => simp [intOf]; omega
      · obtain ⟨⟨bss, css, hgr⟩, bT8, br8, _, _, hbs, hgw, hwT, hTb⟩ := id hst.out
        obtain ⟨av, capv, rfl⟩ := hgr.form
        have r0 := br8.cell 0 rfl
        have r1 := br8.cell 1 rfl
        have fR := br8.unfrozen
        have c0 := bT8.cell 0 rfl
        have c1 := bT8.cell 1 rfl
        have hne : ¬ w1.heap.size = w.heap.size := by omega
        have htm : Hid (tag.size ≤ maxLen) := by show _ ≤ _; have := hsz.out; unfold maxLen; omega
        clear bT8 br8 hgr
        go_wp2_with fail
        obtain ⟨x, fs, q1, q2, q3, q4, q5⟩ := KtSt.done (w' := putCells wr w.heap.size 0 [.string tag, .slice av xs.length capv]) hst.out htm.out (fun b h2 => putCells_other _ _ _ _ _ h2) (by rw [putCells_size]; exact Nat.le_refl _) ⟨rfl, rfl, rfl⟩
        exact bodyPost_ret (v := .agg (List.toArray [.string tag, .slice av xs.length capv])) (by simp [results, Tryd.results70, go_sem, r0, r1]) rfl ⟨_, rfl, x, fs, q1, q2, q3, q4, q5⟩
    · obtain ⟨⟨bss, css, hgr⟩, bT8, br8, _, _, hbs, hgw, hwT, hTb⟩ := id hst.out
      obtain ⟨av, capv, rfl⟩ := hgr.form
      have r0 := br8.cell 0 rfl
      have r1 := br8.cell 1 rfl
      have fR := br8.unfrozen
      have c0 := bT8.cell 0 rfl
      have c1 := bT8.cell 1 rfl
      have hne : ¬ w1.heap.size = w.heap.size := by omega
      have htm : Hid (tag.size ≤ maxLen) := by show _ ≤ _; have := hsz.out; unfold maxLen; omega
      clear bT8 br8 hgr
      go_wp2_with fail
      obtain ⟨x, fs, q1, q2, q3, q4, q5⟩ := KtSt.done (w' := putCells wr w.heap.size 0 [.string tag, .slice av xs.length capv]) hst.out htm.out (fun b h2 => putCells_other _ _ _ _ _ h2) (by rw [putCells_size]; exact Nat.le_refl _) ⟨rfl, rfl, rfl⟩
      exact bodyPost_ret (v := .agg (List.toArray [.string tag, .slice av xs.length capv])) (by simp [results, Tryd.results70, go_sem, r0, r1]) rfl ⟨_, rfl, x, fs, q1, q2, q3, q4, q5⟩
theorem drT_all : ∀ n, DrT n := by
  intro n
  induction n with
  | zero => intro h; omega
  | succ n ih => exact drT_of n ih
end Go.Proofs.YtlcddndpfhdakaaDoor
namespace Go.Proofs.YtlcddndpfhdakaaDoor
open Go.RowKit Go.Deep
def tags3T : List ByteArray := [⟨#[]⟩, ⟨#[65]⟩, ⟨#[97, 98, 99, 100, 101, 102, 103]⟩]
set_option maxHeartbeats 2000000 in
theorem drawTreeOk_any {w : World} {a : Option Addr} {n cap : Nat} (h : CodeAt w a n) :
    Calls Tryd.prog 42 #[.slice a n cap] w fun e w' => (∃ (t k : Value) (x : TD), e = .returned (.agg #[t, k]) ∧ TreeAt w' (w.heap.size + 1) 5 t k x) ∧ Below w.heap.size w w' := by
  have h' : Hid (CodeAt w a n) := h
  clear h
  go_enter Tryd.func42, Tryd.ntmps42
  go_wp2_with fail
  have hbR : Hid (Below w.heap.size w (w.alloc (.cells #[.string ⟨#[]⟩, .slice none 0 0] 36))) := (Below.refl _ _).alloc (Nat.le_refl _) _
  have bR : Hid (Box (w.alloc (.cells #[.string ⟨#[]⟩, .slice none 0 0] 36)) w.heap.size resT 36) := Box.new w _ _
  refine (open_any (CodeAt.below h'.out hbR.out)).mono ?_
  rintro e w1 ⟨g, rfl, hg, hr1, hb1⟩
  have hr1' : Hid (RdAt w1 g a n cap) := hr1
  have hg' : w.heap.size + 1 ≤ g := by simpa using hg
  have hB1 : Hid (Below w.heap.size w w1) := hbR.out.trans (hb1.mono hbR.out.size)
  have bR1 : Hid (Box w1 w.heap.size resT 36) := bR.out.below hb1 bR.out.lt
  have hlt1 := hr1.lt
  clear hr1 hb1 hg
  go_wp2_with fail
  refine (drT_all 5 (by omega) (by omega) w1 g a n cap 0 hr1'.out (by omega)).mono ?_
  rintro e w2 ⟨cs, x, fs, rfl, hok, hnd, hlo, hr2, hg2⟩
  have hB2 : Hid (Below w.heap.size w w2) := below_grown hB1.out (by omega) hg2
  have bR2 : Hid (Box w2 w.heap.size resT 36) := box_other bR1.out (by omega) hg2
  have hflt : Hid (∀ b ∈ fs, w1.heap.size + 1 ≤ b ∧ b < w2.heap.size) := fun b hb => ⟨hlo b hb, TreeOwn_lt 5 _ _ _ _ hok b hb⟩
  obtain ⟨s, k, e, hs1, hs2, s3⟩ := hok
  have s3' : Hid (SeqOwn 2 (TreeOwn 4) w2 k (kidsOf x) fs) := s3
  have hs1' : Hid (s.size ≤ maxLen) := hs1
  have hs2' : Hid (tagOf x = s.data.toList) := hs2
  have hr2' : Hid (RdAt w2 g a n cap) := hr2
  have hz2 : w1.heap.size ≤ w2.heap.size := hg2.size
  obtain ⟨y1, y2, y3⟩ := s3.form
  subst y3 e
  clear hr2 hg2 hnd hlo s3 hs1 hs2
  go_wp2_with fail
  have hbA : Hid (Below w2.heap.size w2 (w2.alloc (.cells #[.string s, .slice y1 (kidsOf x).length y2] 36))) := (Below.refl _ _).alloc (Nat.le_refl _) _
  have bT3 : Hid (Box (w2.alloc (.cells #[.string s, .slice y1 (kidsOf x).length y2] 36)) w2.heap.size [.string s, .slice y1 (kidsOf x).length y2] 36) := Box.new w2 _ _
  refine (once_any (RdAt.below hr2'.out hbA.out) 8 (by omega) (by omega)).mono ?_
  rintro e w3 ⟨v, rfl, hr3, hg3⟩
  have hz3 : w2.heap.size + 1 ≤ w3.heap.size := by have := hg3.size; simpa using this
  have hr3' : Hid (RdAt w3 g a n cap) := hr3
  have hB3 : Hid (Below w.heap.size w w3) := below_grown (hB2.out.alloc hB2.out.size _) (by omega) hg3
  have bT : Hid (Box w3 w2.heap.size [.string s, .slice y1 (kidsOf x).length y2] 36) := box_other bT3.out (by omega) hg3
  have bR3 : Hid (Box w3 w.heap.size resT 36) := box_other (bR2.out.alloc _) (by omega) hg3
  have s4 : Hid (SeqOwn 2 (TreeOwn 4) w3 (.slice y1 (kidsOf x).length y2) (kidsOf x) fs) := s3'.out.stays (TreeOwn_stays 4) (fun b hb => by have q := hflt.out b hb; rw [hg3.block b (by simp; omega) (fun e => by injection e with e; omega), Below.heap_alloc _ _ _ (by omega)])
  have hw2 : w.heap.size + 2 ≤ w2.heap.size := by omega
  clear hr3 hg3 bT3 hbA hr2' bR2 hB2 s3' bR1 hB1 hr1' bR hbR
  cases v with
  | false =>
    have r0 := bR3.out.cell 0 rfl
    have r1 := bR3.out.cell 1 rfl
    have fR := bR3.out.unfrozen
    have c0 := bT.out.cell 0 rfl
    have c1 := bT.out.cell 1 rfl
    go_wp2_with fail
    refine bodyPost_ret (v := .agg #[.string s, .slice y1 (kidsOf x).length y2]) (by simp [results, Tryd.results42, go_sem, r0, r1]) rfl ⟨⟨_, _, x, rfl, ?_⟩, ?_⟩
    · obtain ⟨t, k, e, q⟩ := TreeOwn_at (lo := w.heap.size + 1) 5 (putCells w3 w.heap.size 0 [.string s, .slice y1 (kidsOf x).length y2]) _ x fs ⟨s, _, rfl, hs1'.out, hs2'.out, s4.out.stays (TreeOwn_stays 4) (fun b hb => putCells_other _ _ _ _ _ (by have := hflt.out b hb; omega))⟩ (fun b hb => by have := hflt.out b hb; omega)
      injection e with e1 e2; injection e2 with e2 _; subst e1 e2; exact q
    · exact putCells_below [.string s, .slice y1 (kidsOf x).length y2] _ _ _ w.heap.size 0 (Nat.le_refl _) hB3.out
  | true =>
    have hbB : Hid (Below w3.heap.size w3 (w3.alloc (.cells (tags3T.map Value.string).toArray 9))) := (Below.refl _ _).alloc (Nat.le_refl _) _
    have bx0 : Hid (Box (w3.alloc (.cells (tags3T.map Value.string).toArray 9)) w3.heap.size (tags3T.map Value.string) 9) := Box.new w3 _ _
    go_wp2_with fail
    refine (below_any (RdAt.below hr3'.out hbB.out) 3 (by omega) (by omega)).mono ?_
    rintro e w4 ⟨u, rfl, u0, u1, hr4, hg4⟩
    have hz4 : w3.heap.size + 1 ≤ w4.heap.size := by have := hg4.size; simpa using this
    have hg3lt : g < w3.heap.size := by omega
    have hB4 : Hid (Below w.heap.size w w4) := below_grown (hB3.out.alloc hB3.out.size _) (by omega) hg4
    have bT4 : Hid (Box w4 w2.heap.size [.string s, .slice y1 (kidsOf x).length y2] 36) := box_other (bT.out.alloc _) (by omega) hg4
    have bR4 : Hid (Box w4 w.heap.size resT 36) := box_other (bR3.out.alloc _) (by omega) hg4
    have bx1 : Hid (Box w4 w3.heap.size (tags3T.map Value.string) 9) := box_other bx0.out (by omega) hg4
    have s5 : Hid (SeqOwn 2 (TreeOwn 4) w4 (.slice y1 (kidsOf x).length y2) (kidsOf x) fs) := s4.out.stays (TreeOwn_stays 4) (fun b hb => by have q := hflt.out b hb; rw [hg4.block b (by simp; omega) (fun e => by injection e with e; omega), Below.heap_alloc _ _ _ (by omega)])
    obtain ⟨k, rfl⟩ := Int.eq_ofNat_of_zero_le u0
    have hk : k < tags3T.length := by show k < 3; omega
    have hc := box_str bx1.out k hk
    have hsz : Hid (tags3T[k].size ≤ 7) := mem_le (by decide) k hk
    generalize tags3T[k] = tag at hc hsz
    have hk3 : (k : Int) < 3 := by omega
    clear hr4 hg4 bx0 bx1 bT bR3 s4 hbB
    have r0 := bR4.out.cell 0 rfl
    have r1 := bR4.out.cell 1 rfl
    have fR := bR4.out.unfrozen
    have c0 := bT4.out.cell 0 rfl
    have c1 := bT4.out.cell 1 rfl
    have fT := bT4.out.unfrozen
    have hne : ¬ w2.heap.size = w.heap.size := by omega
    go_wp2_with fail
    refine bodyPost_ret (v := .agg #[.string tag, .slice y1 (kidsOf x).length y2]) (by simp [results, Tryd.results42, go_sem, r0, r1]) rfl ⟨⟨_, _, mkT tag (kidsOf x), rfl, ?_⟩, ?_⟩
    · obtain ⟨t, k, e, q⟩ := TreeOwn_at (lo := w.heap.size + 1) 5 (putCells (w4.setCell ⟨w2.heap.size, 0, none⟩ (.string tag)) w.heap.size 0 [.string tag, .slice y1 (kidsOf x).length y2]) _ (mkT tag (kidsOf x)) fs ⟨tag, _, rfl, by have := hsz.out; unfold maxLen; omega, rfl, s5.out.stays (TreeOwn_stays 4) (fun b hb => by have := hflt.out b hb; rw [putCells_other _ _ _ _ _ (by omega)]; exact set_other (by omega) _)⟩ (fun b hb => by have := hflt.out b hb; omega)
      injection e with e1 e2; injection e2 with e2 _; subst e1 e2; exact q
    · exact putCells_below [.string tag, .slice y1 (kidsOf x).length y2] _ _ _ w.heap.size 0 (Nat.le_refl _) (putCells_below [.string tag] _ _ _ w2.heap.size 0 (by omega) hB4.out)
end Go.Proofs.YtlcddndpfhdakaaDoor
