/- What lies in memory while a mark is drawn: its attributes, then its kids. -/
import Derived.Test.YtlcddndpfhdakaaDoorMarkOwn
import Derived.Test.YtlcddndpfhdakaaDoorDraws
import Derived.Test.YtlcddndpfhdakaaDoorEscSpec
import Derived.Test.YtlcddndpfhdakaaDoorTakeLit
namespace Go.Proofs.YtlcddndpfhdakaaDoor
open Go.RowKit
abbrev resC : List Value := [.string ⟨#[]⟩, .string ⟨#[]⟩, .slice none 0 0, .slice none 0 0]
def names3 : List ByteArray := [⟨#[99, 108, 97, 115, 115]⟩, ⟨#[105, 100]⟩, ⟨#[115, 114, 99]⟩]
/-- its attributes are drawn -/
def AtSt (w : World) (g : Nat) (a : Option Addr) (nn cap T : Nat) (tag : ByteArray) (va : Value) (xs : List AttrD) (wr : World) : Prop :=
  (∃ bss css, GrowOwn 70 2 AttrOwn (T + 2) wr va xs bss css) ∧ Box wr T [.string tag, .string ⟨#[]⟩, va, .slice none 0 0] 27 ∧ Box wr (T + 1) (names3.map Value.string) 9 ∧ Box wr w.heap.size resC 27 ∧ RdAt wr g a nn cap ∧ w.grownBy wr (some g) ∧ T + 2 ≤ wr.heap.size ∧ g < w.heap.size ∧ w.heap.size < T
theorem AtSt.grown {w : World} {g : Nat} {a : Option Addr} {nn cap T : Nat} {tag : ByteArray} {va : Value} {xs : List AttrD} {wr w2 : World} (h : AtSt w g a nn cap T tag va xs wr) (hg : wr.grownBy w2 (some g)) (hr : RdAt w2 g a nn cap) : AtSt w g a nn cap T tag va xs w2 := by
  obtain ⟨⟨bss, css, h1⟩, h2, h3, h4, h5, h6, h7, h8, h9⟩ := h
  have s := hg.size
  exact ⟨⟨bss, css, h1.stay AttrOwn_stays s (fun b q1 q2 => hg.block b q2 (fun e => by injection e; omega))⟩, box_other h2 (by omega) hg, box_other h3 (by omega) hg, box_other h4 (by omega) hg, hr, h6.trans hg, by omega, h8, h9⟩
theorem AtSt.step {w : World} {g : Nat} {a : Option Addr} {nn cap T n1 capn gg : Nat} {tag : ByteArray} {va : Value} {xs : List AttrD} {wr w1 w3 : World} {o : Obj} {x : AttrD} {cs : List Value} {css : List (List Value)} {bss : List (List Nat)} (h : AtSt w g a nn cap T tag va xs wr) (hgr : GrowOwn 70 2 AttrOwn (T + 2) wr va xs bss css) (hg1 : wr.grownBy w1 (some g)) (hrd : RdAt w1 g a nn cap)
    (hr : AttrAt w1 0 cs x) (hcl : cs.length = 2) (hn1 : n1 = xs.length + 1) (hown : w3.ownsRow (T + 2) 70 2 (.slice (some ⟨gg, 0, none⟩) n1 capn) n1 (css.flatten ++ cs)) (hgrow : (w1.alloc o).grownBy w3 va.ownBlock) (hat : va.ownBlock = some gg ∨ gg = (w1.alloc o).heap.size) :
    AtSt w g a nn cap T tag (.slice (some ⟨gg, 0, none⟩) n1 capn) (xs ++ [x]) (w3.setCell ⟨T, 2, none⟩ (.slice (some ⟨gg, 0, none⟩) n1 capn)) := by
  obtain ⟨_, h2, h3, h4, h5, h6, h7, h8, h9⟩ := h
  obtain ⟨q1, q2, q3, q4, q5, q6⟩ := grow_fin (f := 2) AttrOwn_stays hgr hg1 (by omega) (by omega) h7 hcl ⟨hr, rfl⟩ List.nodup_nil (by intro b hb; cases hb) (by intro b hb; cases hb) hn1 hown hgrow hat h2 hrd h6 (by omega)
  exact ⟨⟨_, _, q1⟩, q2, (q5 (T + 1) (by omega) (by omega) (by omega)).trans h3, (q5 w.heap.size (by omega) (by omega) (by omega)).trans h4, q3, q4, q6, h8, h9⟩
/-- its kids are drawn -/
def KdSt (n : Nat) (w : World) (g : Nat) (a : Option Addr) (nn cap T base : Nat) (tag : ByteArray) (va : Value) (ats : List AttrD) (vk : Value) (xs : List MarkD) (wr : World) : Prop :=
  (∃ bss css, GrowOwn 27 4 (MarkOwn n) base wr vk xs bss css) ∧ Box wr T [.string tag, .string ⟨#[]⟩, va, vk] 27 ∧ (∃ f2, SeqOwn 2 AttrOwn wr va ats f2 ∧ ∀ b ∈ f2, T + 2 ≤ b ∧ b < base) ∧ Box wr w.heap.size resC 27 ∧ RdAt wr g a nn cap ∧ w.grownBy wr (some g) ∧ base ≤ wr.heap.size ∧ g < w.heap.size ∧ w.heap.size < T ∧ T + 2 ≤ base
theorem KdSt.start {n : Nat} {w : World} {g : Nat} {a : Option Addr} {nn cap T : Nat} {tag : ByteArray} {va : Value} {xs : List AttrD} {wr : World} (h : AtSt w g a nn cap T tag va xs wr) : KdSt n w g a nn cap T wr.heap.size tag va xs (.slice none 0 0) [] wr := by
  obtain ⟨⟨bss, css, h1⟩, h2, h3, h4, h5, h6, h7, h8, h9⟩ := h
  obtain ⟨fs, ho, hb⟩ := h1.done
  exact ⟨⟨[], [], GrowOwn.nil⟩, h2, ⟨fs, ho, fun b q => ⟨hb b q, ho.lt AttrOwn_lt b q⟩⟩, h4, h5, h6, Nat.le_refl _, h8, h9, h7⟩
theorem KdSt.grown {n : Nat} {w : World} {g : Nat} {a : Option Addr} {nn cap T base : Nat} {tag : ByteArray} {va vk : Value} {ats : List AttrD} {xs : List MarkD} {wr w2 : World} (h : KdSt n w g a nn cap T base tag va ats vk xs wr) (hg : wr.grownBy w2 (some g)) (hr : RdAt w2 g a nn cap) : KdSt n w g a nn cap T base tag va ats vk xs w2 := by
  obtain ⟨⟨bss, css, h1⟩, h2, ⟨f2, h3, h3b⟩, h4, h5, h6, h7, h8, h9, h10⟩ := h
  have s := hg.size
  exact ⟨⟨bss, css, h1.stay (MarkOwn_stays n) s (fun b q1 q2 => hg.block b q2 (fun e => by injection e; omega))⟩, box_other h2 (by omega) hg, ⟨f2, h3.stays AttrOwn_stays (fun b q => hg.block b (by have := h3b b q; omega) (fun e => by injection e with e; have := h3b b q; omega)), h3b⟩, box_other h4 (by omega) hg, hr, h6.trans hg, by omega, h8, h9, h10⟩
theorem KdSt.step {n : Nat} {w : World} {g : Nat} {a : Option Addr} {nn cap T base n1 capn gg : Nat} {tag : ByteArray} {va vk : Value} {ats : List AttrD} {xs : List MarkD} {wr w1 w3 : World} {o : Obj} {x : MarkD} {cs : List Value} {fs : List Nat} {css : List (List Value)} {bss : List (List Nat)} (h : KdSt n w g a nn cap T base tag va ats vk xs wr) (hgr : GrowOwn 27 4 (MarkOwn n) base wr vk xs bss css) (hg1 : wr.grownBy w1 (some g)) (hrd : RdAt w1 g a nn cap)
    (hr : MarkOwn n w1 cs x fs) (hnd : fs.Nodup) (hlo : ∀ b ∈ fs, wr.heap.size ≤ b) (hcl : cs.length = 4) (hn1 : n1 = xs.length + 1) (hown : w3.ownsRow base 27 4 (.slice (some ⟨gg, 0, none⟩) n1 capn) n1 (css.flatten ++ cs)) (hgrow : (w1.alloc o).grownBy w3 vk.ownBlock) (hat : vk.ownBlock = some gg ∨ gg = (w1.alloc o).heap.size) :
    KdSt n w g a nn cap T base tag va ats (.slice (some ⟨gg, 0, none⟩) n1 capn) (xs ++ [x]) (w3.setCell ⟨T, 3, none⟩ (.slice (some ⟨gg, 0, none⟩) n1 capn)) := by
  obtain ⟨_, h2, ⟨f2, h3, h3b⟩, h4, h5, h6, h7, h8, h9, h10⟩ := h
  obtain ⟨q1, q2, q3, q4, q5, q6⟩ := grow_fin (f := 3) (MarkOwn_stays n) hgr hg1 (by omega) (by omega) h7 hcl hr hnd hlo (MarkOwn_lt n _ _ _ _ hr) hn1 hown hgrow hat h2 hrd h6 (by omega)
  exact ⟨⟨_, _, q1⟩, q2, ⟨f2, h3.stays AttrOwn_stays (fun b q => q5 b (h3b b q).2 (by have := h3b b q; omega) (by have := h3b b q; omega)), h3b⟩, (q5 w.heap.size (by omega) (by omega) (by omega)).trans h4, q3, q4, q6, h8, h9, h10⟩
/-- what is drawn, once its text is set or not -/
theorem KdSt.done {n : Nat} {w : World} {g : Nat} {a : Option Addr} {nn cap T base : Nat} {tag txt : ByteArray} {va vk : Value} {ats : List AttrD} {xs : List MarkD} {wr w' : World} (h : KdSt n w g a nn cap T base tag va ats vk xs wr) (ht : tag.size ≤ maxLen) (hx : txt.size ≤ maxLen) (hk : ∀ b, b ≠ T → b ≠ w.heap.size → w'.heap[b]? = wr.heap[b]?) (hs : wr.heap.size ≤ w'.heap.size) (ho : w'.os = wr.os ∧ w'.tape = wr.tape ∧ w'.output = wr.output) :
    ∃ (x : MarkD) (fs : List Nat), MarkOwn (n + 1) w' [.string tag, .string txt, va, vk] x fs ∧ fs.Nodup ∧ (∀ b ∈ fs, w.heap.size ≤ b) ∧ RdAt w' g a nn cap ∧ w.grownBy w' (some g) := by
  obtain ⟨⟨bss, css, h1⟩, h2, ⟨f2, h3, h3b⟩, h4, h5, h6, h7, h8, h9, h10⟩ := h
  obtain ⟨f3, q3, q3b⟩ := h1.done
  refine ⟨MarkD.mk tag txt ats xs, f2 ++ f3, ⟨va, vk, f2, f3, by rw [MarkD.mk_tag, MarkD.mk_text], ?_, ?_, by rw [MarkD.mk_tag]; exact ht, by rw [MarkD.mk_text]; exact hx, rfl⟩, ?_, ?_, h5.keep (fun b q => hk b (by omega) (by omega)), ?_⟩
  · rw [MarkD.mk_attrs]; exact h3.stays AttrOwn_stays (fun b q => hk b (by have := h3b b q; omega) (by have := h3b b q; omega))
  · rw [MarkD.mk_kids]; exact q3.stays (MarkOwn_stays n) (fun b q => hk b (by have := q3b b q; omega) (by have := q3b b q; omega))
  · exact nodup_two h3.nodup q3.nodup (fun b q => (h3b b q).2) q3b
  · intro b q
    rcases List.mem_append.1 q with q | q
    · have := h3b b q; omega
    · have := q3b b q; omega
  · exact ⟨ho.1.trans h6.os, ho.2.1.trans h6.tape, ho.2.2.trans h6.output, Nat.le_trans h6.size hs, fun b hb hne => (hk b (by omega) (by omega)).trans (h6.block b hb hne)⟩
end Go.Proofs.YtlcddndpfhdakaaDoor
namespace Go.Proofs.YtlcddndpfhdakaaDoor
open Go.RowKit
/-- the eight texts with signs -/
def sign8 : List ByteArray := [⟨#[97]⟩, ⟨#[60]⟩, ⟨#[38]⟩, ⟨#[120, 32, 121]⟩, ⟨#[34, 113, 34]⟩, ⟨#[38, 108, 116, 59]⟩, ⟨#[97, 62, 98]⟩, ⟨#[32]⟩]
set_option maxHeartbeats 1000000 in
theorem signs_any {w : World} {g : Nat} {a : Option Addr} {n cap : Nat} (h : RdAt w g a n cap) :
    Calls Tryd.prog 64 #[.pointer (some ⟨g, 0, none⟩)] w fun e w' => ∃ s : ByteArray, e = .returned (.string s) ∧ s.size ≤ 4 ∧ RdAt w' g a n cap ∧ w.grownBy w' (some g) := by
  have h' : Hid (RdAt w g a n cap) := h
  have hlt := h.lt
  clear h
  have hb0 : Hid (Below w.heap.size w (w.alloc (.cells (sign8.map Value.string).toArray 9))) := (Below.refl _ _).alloc (Nat.le_refl _) _
  have bx0 : Hid (Box (w.alloc (.cells (sign8.map Value.string).toArray 9)) w.heap.size (sign8.map Value.string) 9) := Box.new w _ _
  go_enter Tryd.func64, Tryd.ntmps64
  go_wp2_with fail
  refine (below_any (RdAt.below h'.out hb0.out) 8 (by omega) (by omega)).mono ?_
  rintro e w1 ⟨v, rfl, v0, v1, hr1, hg1⟩
  have hr1' : Hid (RdAt w1 g a n cap) := hr1
  have hg1' : Hid (w.grownBy w1 (some g)) := (grown_of_below hb0.out _).trans hg1
  have bx1 : Hid (Box w1 w.heap.size (sign8.map Value.string) 9) := box_other bx0.out (by omega) hg1
  obtain ⟨k, rfl⟩ := Int.eq_ofNat_of_zero_le v0
  have hk : k < sign8.length := by show k < 8; omega
  have hc := box_str bx1.out k hk
  have hsz : Hid (sign8[k].size ≤ 4) := mem_le (by decide) k hk
  generalize sign8[k] = s at hc hsz
  have hk8 : (k : Int) < 8 := by omega
  clear hr1 hg1
  go_wp2_with fail
  go_ret
  exact ⟨_, rfl, hsz.out, hr1'.out, hg1'.out⟩
theorem infoA : ((Tryd.prog.info? 70).map fun i => (i.zero, i.bytes, i.size)) = some (some (.agg #[.string ByteArray.empty, .string ByteArray.empty]), 32, 2) := by kernel_rfl
theorem infoMk : ((Tryd.prog.info? 27).map fun i => (i.zero, i.bytes, i.size)) = some (some (.agg #[.string ByteArray.empty, .string ByteArray.empty, .slice none 0 0, .slice none 0 0]), 80, 4) := by kernel_rfl
def tags3 : List ByteArray := [⟨#[97]⟩, ⟨#[100, 105, 118]⟩, ⟨#[112]⟩]
def DrM (n : Nat) : Prop := 1 ≤ n → n ≤ 4 → ∀ (w : World) (g : Nat) (a : Option Addr) (nn cap : Nat) (deep : Int), RdAt w g a nn cap → deep = 5 - (n : Int) →
  Calls Tryd.prog 33 #[.pointer (some ⟨g, 0, none⟩), .int .i64 deep] w fun e w' => ∃ (cs : List Value) (x : MarkD) (fs : List Nat), e = .returned (.agg cs.toArray) ∧ MarkOwn n w' cs x fs ∧ fs.Nodup ∧ (∀ b ∈ fs, w.heap.size ≤ b) ∧ RdAt w' g a nn cap ∧ w.grownBy w' (some g)
set_option maxRecDepth 100000 in
set_option maxHeartbeats 4000000 in
theorem drM_of (n : Nat) (hS : Hid (DrM n)) : DrM (n + 1) := by
  intro _ hn4 w g a nn cap deep hrd hdeep
  have hlt := hrd.lt
  have hrd' : Hid (RdAt w g a nn cap) := hrd
  have hdeep' : Hid (deep = 4 - (n : Int)) := by show _ = _; rw [hdeep]; omega
  have hd0 : 1 ≤ deep := by omega
  have hd9 : deep ≤ 5 := by omega
  have hn4' : Hid (n + 1 ≤ 4) := hn4
  have hwd : IntKind.i64.wrap (deep + 1) = deep + 1 := by rw [IntKind.wrap_i64]; omega
  clear hrd hdeep hn4
  obtain ⟨iA, hiA0, heA0⟩ := Option.map_eq_some_iff.1 infoA
  obtain ⟨iM, hiM0, heM0⟩ := Option.map_eq_some_iff.1 infoMk
  simp only [Prod.mk.injEq] at heA0 heM0
  have hiA : Hid (Tryd.prog.info? 70 = some iA) := hiA0
  have heA : Hid (iA.zero = some (.agg #[.string ByteArray.empty, .string ByteArray.empty]) ∧ iA.bytes = 32 ∧ iA.size = 2) := heA0
  have hiM : Hid (Tryd.prog.info? 27 = some iM) := hiM0
  have heM : Hid (iM.zero = some (.agg #[.string ByteArray.empty, .string ByteArray.empty, .slice none 0 0, .slice none 0 0]) ∧ iM.bytes = 80 ∧ iM.size = 4) := heM0
  clear hiA0 heA0 hiM0 heM0
  have hb0 : Hid (Below w.heap.size w ((w.alloc (.cells #[.string ⟨#[]⟩, .string ⟨#[]⟩, .slice none 0 0, .slice none 0 0] 27)).alloc (.cells (tags3.map Value.string).toArray 9))) := ((Below.refl _ _).alloc (Nat.le_refl _) _).alloc (by simp) _
  have bx0 : Hid (Box ((w.alloc (.cells #[.string ⟨#[]⟩, .string ⟨#[]⟩, .slice none 0 0, .slice none 0 0] 27)).alloc (.cells (tags3.map Value.string).toArray 9)) (w.heap.size + 1) (tags3.map Value.string) 9) := by have := Box.new (w.alloc (.cells #[.string ⟨#[]⟩, .string ⟨#[]⟩, .slice none 0 0, .slice none 0 0] 27)) (tags3.map Value.string) 9; simpa [Hid] using this
  have br0 : Hid (Box ((w.alloc (.cells #[.string ⟨#[]⟩, .string ⟨#[]⟩, .slice none 0 0, .slice none 0 0] 27)).alloc (.cells (tags3.map Value.string).toArray 9)) w.heap.size [.string ⟨#[]⟩, .string ⟨#[]⟩, .slice none 0 0, .slice none 0 0] 27) := (Box.new w _ _).alloc _
  go_enter Tryd.func33, Tryd.ntmps33
  go_wp2_with fail
  refine (below_any (RdAt.below hrd'.out hb0.out) 3 (by omega) (by omega)).mono ?_
  rintro e w1 ⟨v, rfl, v0, v1, hr1, hg1⟩
  have hr1' : Hid (RdAt w1 g a nn cap) := hr1
  have hg1' : Hid (w.grownBy w1 (some g)) := (grown_of_below hb0.out _).trans hg1
  have hz1 : w.heap.size + 2 ≤ w1.heap.size := by have := hg1.size; simpa using this
  have br1 : Hid (Box w1 w.heap.size [.string ⟨#[]⟩, .string ⟨#[]⟩, .slice none 0 0, .slice none 0 0] 27) := box_other br0.out (by omega) hg1
  have bx1 : Hid (Box w1 (w.heap.size + 1) (tags3.map Value.string) 9) := box_other bx0.out (by omega) hg1
  obtain ⟨k, rfl⟩ := Int.eq_ofNat_of_zero_le v0
  have hk : k < tags3.length := by show k < 3; omega
  have hc := box_str bx1.out k hk
  have hsz : Hid (tags3[k].size ≤ 3) := mem_le (by decide) k hk
  generalize tags3[k] = tag at hc hsz
  have hk3 : (k : Int) < 3 := by omega
  clear hr1 hg1
  go_wp2_with fail
  go_loopw [7] (fun i wr => ∃ (j : Nat) (va : Value) (xs : List AttrD), j ≤ 3 ∧ i = .int .i64 j ∧ Hid (xs.length ≤ j) ∧ Hid (AtSt w g a nn cap w1.heap.size tag va xs wr)) (fun i _ => 3 - (intOf i).toNat)
  case atStart =>
    refine ⟨0, .slice none 0 0, [], by omega, rfl, Nat.le_refl _, ?_⟩
    have hbA : Below w1.heap.size w1 ((w1.alloc (.cells #[.string tag, .string ⟨#[]⟩, .slice none 0 0, .slice none 0 0] 27)).alloc (.cells (names3.map Value.string).toArray 9)) := ((Below.refl _ _).alloc (Nat.le_refl _) _).alloc (by simp) _
    have bN : Box ((w1.alloc (.cells #[.string tag, .string ⟨#[]⟩, .slice none 0 0, .slice none 0 0] 27)).alloc (.cells (names3.map Value.string).toArray 9)) (w1.heap.size + 1) (names3.map Value.string) 9 := by have := Box.new (w1.alloc (.cells #[.string tag, .string ⟨#[]⟩, .slice none 0 0, .slice none 0 0] 27)) (names3.map Value.string) 9; simpa using this
    exact ⟨⟨[], [], GrowOwn.nil⟩, (Box.new w1 _ _).alloc _, bN, (br1.out.alloc _).alloc _, RdAt.below hr1'.out hbA, hg1'.out.trans (grown_of_below hbA _), by simp, hlt, by omega⟩
  case round =>
    obtain ⟨j, va, xs, hj, rfl, hxl, hst⟩ := hrel
    by_cases hj3 : j < 3
    · go_wp2_with fail
      refine (once_any hst.out.2.2.2.2.1 4 (by omega) (by omega)).mono ?_
      rintro e w2 ⟨v, rfl, hr2, hg2⟩
      have hst2 : Hid (AtSt w g a nn cap w1.heap.size tag va xs w2) := AtSt.grown hst.out hg2 hr2
      have hrd2 : Hid (RdAt w2 g a nn cap) := hr2
      clear hr2 hg2
      cases v
      · go_wp2_with fail
        go_roundw
        case rel => exact ⟨j + 1, va, xs, by omega, by go_num, by show _ ≤ _; have := hxl.out; omega, hst2⟩
        case measure => simp [intOf]; omega
      · obtain ⟨⟨bss, css, hgr⟩, bTr0, bN, _, _, _, hbs, hgw, hwT⟩ := id hst2.out
        have hcn0 := box_str bN j (show j < names3.length from hj3)
        have hnm : Hid (names3[j].size ≤ 5) := mem_le (by decide) j (show j < names3.length from hj3)
        generalize names3[j] = nm at hcn0 hnm
        obtain ⟨av, capv, rfl⟩ := hgr.form
        have bTr : Hid (Box w2 w1.heap.size [.string tag, .string ⟨#[]⟩, .slice av xs.length capv, .slice none 0 0] 27) := bTr0
        have hvb := own_ge hgr
        have hcn : w2.drew.cell? ⟨w1.heap.size + 1, j, none⟩ = some (.string nm) := hcn0
        have hj3i : (j : Int) < 3 := by omega
        have hj0i : (0 : Int) ≤ (j : Int) := by omega
        clear bTr0 bN hcn0
        go_wp2_with fail
        refine wp_region_held_drew (S := fun w' => w'.cell? ⟨w1.heap.size + 1, j, none⟩ = some (.string nm)) (by kernel_rfl) hcn (fun hHeld => ?_)
        refine tq (i := 0) (d := 25) ?_
        simp only [sz, ss]
        refine tq (i := 2) (d := 27) ?_
        simp only [sz, ss]
        refine tq (i := 3) (d := 28) ?_
        simp only [sz, ss]
        refine tq (i := 4) (d := 29) ?_
        simp only [sz, ss]
        refine tq (i := 5) (d := 30) ?_
        simp only [sz, ss]
        refine tq (i := 6) (d := 31) ?_
        simp only [sz, ss]
        refine wpAnyH_ready (rs := [1, 7]) (by kernel_rfl) (by simp) ?_
        refine (AllReadyH.cons rfl (fun K hK => ?_) (AllReadyH.cons rfl (fun K hK => ?_) AllReadyH.nil))
        · have cT : w2.drew.cell? ⟨w1.heap.size, 2, none⟩ = some (.slice av xs.length capv) := bTr.out.cell 2 rfl
          go_simp
          clear cT
          refine hK.out _ _ hHeld (fun hHeld => ?_)
          clear hK K
          refine wpAnyH_ready (rs := [7]) (by kernel_rfl) (by simp) ?_
          refine AllReadyH.cons rfl (fun K hK => ?_) AllReadyH.nil
          go_simp
          refine (signs_any (by exact hrd2.out)).mono ?_
          rintro e w4 ⟨s, rfl, hs4, hr4, hg4⟩
          have hs4' : Hid (s.size ≤ 4) := hs4
          have hg4' : Hid (w2.grownBy w4 (some g)) := ⟨hg4.os, hg4.tape, hg4.output, hg4.size, hg4.block⟩
          have hr4' : Hid (RdAt w4 g a nn cap) := hr4
          have bT4 : Hid (Box w4 (w1.heap.size) [.string tag, .string ⟨#[]⟩, .slice av xs.length capv, .slice none 0 0] 27) := box_other bTr.out (by omega) hg4'.out
          have hz4 := hg4'.out.size
          clear hg4 hr4
          refine hK.out _ _ (cell_grown (w := w2) hHeld hg4'.out (by intro e; injection e with e; omega)) (fun hHeld => ?_)
          clear hK K
          refine tq (i := 8) (d := 33) ?_
          simp only [sz, ss]
          refine wpAnyH_ready (rs := [9]) (by kernel_rfl) (by simp) ?_
          refine AllReadyH.cons rfl (fun K hK => ?_) AllReadyH.nil
          go_simp
          refine hK.out _ _ (cell_alloc hHeld _) (fun hHeld => ?_)
          clear hK K
          refine wpAnyH_ready (rs := [10]) (by kernel_rfl) (by simp) ?_
          refine AllReadyH.cons rfl (fun K hK => ?_) AllReadyH.nil
          refine step_append_lies (w4.alloc (.cells #[.string nm, .string s] 70)) rfl _ _ 24 rfl _ 70 iA _ 2 32 Tryd.underlying24 hiA.out heA.out.1 heA.out.2.2 heA.out.2.1 rfl (by decide) (.slice av xs.length capv) xs.length css.flatten rfl ((GrowOwn.stay AttrOwn_stays hgr (w' := (w4.alloc (.cells #[.string nm, .string s] 70))) (by simp; omega) (fun b q1 q2 => by rw [Below.heap_alloc _ _ _ (by omega), hg4'.out.block b q2 (fun e => by injection e with e; omega)])).row) ⟨w4.heap.size, 0, none⟩ 1 1 [.string nm, .string s] rfl rfl (by intro i u hu; match i, hu with | 0, hu => (simp at hu; subst hu; simp [Addr.add]) | 1, hu => (simp at hu; subst hu; simp [Addr.add]) | i + 2, hu => simp at hu) (by intro u hu; simp at hu; rcases hu with rfl | rfl <;> rfl) (by omega) (by have := hxl.out; unfold maxLen; omega) (by have := hxl.out; omega) (by simp; omega) _ rfl ?_
          intro g3 capg w5 hown5 hgrow5 hat5 hlt5
          have bT5 : Hid (Box w5 (w1.heap.size) [.string tag, .string ⟨#[]⟩, .slice av xs.length capv, .slice none 0 0] 27) := (hgrow5.block (w1.heap.size) (by simp; omega) (by intro e; have := hvb _ e.symm; omega)).trans (bT4.out.alloc _)
          go_simp
          refine hK.out _ _ (cell_grown hHeld hgrow5 (by intro e; have := hvb _ e; omega)) (fun hHeld => ?_)
          clear hK K
          refine tq (i := 11) (d := 36) ?_
          simp only [sz, ss]
          refine wpAnyH_ready (rs := [12]) (by kernel_rfl) (by simp) ?_
          refine AllReadyH.cons rfl (fun K hK => ?_) AllReadyH.nil
          have cT5 := bT5.out.cell 2 rfl
          have fT5 := bT5.out.unfrozen 2
          go_simp
          refine hK.out _ _ (cell_set hHeld (by omega) _) (fun hHeld => ?_)
          clear hK K
          refine wpAnyH_done (by kernel_rfl) ?_ _
          have hst4 : Hid (AtSt w g a nn cap w1.heap.size tag _ _ _) := AtSt.step hst2.out hgr hg4'.out hr4'.out (x := ⟨nm, s⟩) ⟨rfl, by show nm.size ≤ maxLen; have := hnm.out; unfold maxLen; omega, by show s.size ≤ maxLen; have := hs4'.out; unfold maxLen; omega, trivial⟩ rfl rfl hown5 hgrow5 hat5
          go_wp2_with fail
          go_roundw
          case rel => exact ⟨j + 1, _, xs ++ [⟨nm, s⟩], by omega, by go_num, by show _ ≤ _; have := hxl.out; simp; omega, hst4⟩
          case measure => simp [intOf]; omega
        · go_simp
          refine (signs_any (by exact hrd2.out)).mono ?_
          rintro e w4 ⟨s, rfl, hs4, hr4, hg4⟩
          have hs4' : Hid (s.size ≤ 4) := hs4
          have hg4' : Hid (w2.grownBy w4 (some g)) := ⟨hg4.os, hg4.tape, hg4.output, hg4.size, hg4.block⟩
          have hr4' : Hid (RdAt w4 g a nn cap) := hr4
          have bT4 : Hid (Box w4 (w1.heap.size) [.string tag, .string ⟨#[]⟩, .slice av xs.length capv, .slice none 0 0] 27) := box_other bTr.out (by omega) hg4'.out
          have hz4 := hg4'.out.size
          clear hg4 hr4
          refine hK.out _ _ (cell_grown (w := w2) hHeld hg4'.out (by intro e; injection e with e; omega)) (fun hHeld => ?_)
          clear hK K
          refine tq (i := 8) (d := 33) ?_
          simp only [sz, ss]
          refine wpAnyH_ready (rs := [1, 9]) (by kernel_rfl) (by simp) ?_
          refine (AllReadyH.cons rfl (fun K hK => ?_) (AllReadyH.cons rfl (fun K hK => ?_) AllReadyH.nil))
          · have cT : w4.cell? ⟨w1.heap.size, 2, none⟩ = some (.slice av xs.length capv) := bT4.out.cell 2 rfl
            go_simp
            clear cT
            refine hK.out _ _ hHeld (fun hHeld => ?_)
            clear hK K
            refine wpAnyH_ready (rs := [9]) (by kernel_rfl) (by simp) ?_
            refine AllReadyH.cons rfl (fun K hK => ?_) AllReadyH.nil
            go_simp
            refine hK.out _ _ (cell_alloc hHeld _) (fun hHeld => ?_)
            clear hK K
            refine wpAnyH_ready (rs := [10]) (by kernel_rfl) (by simp) ?_
            refine AllReadyH.cons rfl (fun K hK => ?_) AllReadyH.nil
            refine step_append_lies (w4.alloc (.cells #[.string nm, .string s] 70)) rfl _ _ 24 rfl _ 70 iA _ 2 32 Tryd.underlying24 hiA.out heA.out.1 heA.out.2.2 heA.out.2.1 rfl (by decide) (.slice av xs.length capv) xs.length css.flatten rfl ((GrowOwn.stay AttrOwn_stays hgr (w' := (w4.alloc (.cells #[.string nm, .string s] 70))) (by simp; omega) (fun b q1 q2 => by rw [Below.heap_alloc _ _ _ (by omega), hg4'.out.block b q2 (fun e => by injection e with e; omega)])).row) ⟨w4.heap.size, 0, none⟩ 1 1 [.string nm, .string s] rfl rfl (by intro i u hu; match i, hu with | 0, hu => (simp at hu; subst hu; simp [Addr.add]) | 1, hu => (simp at hu; subst hu; simp [Addr.add]) | i + 2, hu => simp at hu) (by intro u hu; simp at hu; rcases hu with rfl | rfl <;> rfl) (by omega) (by have := hxl.out; unfold maxLen; omega) (by have := hxl.out; omega) (by simp; omega) _ rfl ?_
            intro g3 capg w5 hown5 hgrow5 hat5 hlt5
            have bT5 : Hid (Box w5 (w1.heap.size) [.string tag, .string ⟨#[]⟩, .slice av xs.length capv, .slice none 0 0] 27) := (hgrow5.block (w1.heap.size) (by simp; omega) (by intro e; have := hvb _ e.symm; omega)).trans (bT4.out.alloc _)
            go_simp
            refine hK.out _ _ (cell_grown hHeld hgrow5 (by intro e; have := hvb _ e; omega)) (fun hHeld => ?_)
            clear hK K
            refine tq (i := 11) (d := 36) ?_
            simp only [sz, ss]
            refine wpAnyH_ready (rs := [12]) (by kernel_rfl) (by simp) ?_
            refine AllReadyH.cons rfl (fun K hK => ?_) AllReadyH.nil
            have cT5 := bT5.out.cell 2 rfl
            have fT5 := bT5.out.unfrozen 2
            go_simp
            refine hK.out _ _ (cell_set hHeld (by omega) _) (fun hHeld => ?_)
            clear hK K
            refine wpAnyH_done (by kernel_rfl) ?_ _
            have hst4 : Hid (AtSt w g a nn cap w1.heap.size tag _ _ _) := AtSt.step hst2.out hgr hg4'.out hr4'.out (x := ⟨nm, s⟩) ⟨rfl, by show nm.size ≤ maxLen; have := hnm.out; unfold maxLen; omega, by show s.size ≤ maxLen; have := hs4'.out; unfold maxLen; omega, trivial⟩ rfl rfl hown5 hgrow5 hat5
            go_wp2_with fail
            go_roundw
            case rel => exact ⟨j + 1, _, xs ++ [⟨nm, s⟩], by omega, by go_num, by show _ ≤ _; have := hxl.out; simp; omega, hst4⟩
            case measure => simp [intOf]; omega
          · go_simp
            refine hK.out _ _ (cell_alloc hHeld _) (fun hHeld => ?_)
            clear hK K
            refine wpAnyH_ready (rs := [1]) (by kernel_rfl) (by simp) ?_
            refine AllReadyH.cons rfl (fun K hK => ?_) AllReadyH.nil
            have cT : (w4.alloc (.cells #[.string nm, .string s] 70)).cell? ⟨w1.heap.size, 2, none⟩ = some (.slice av xs.length capv) := (bT4.out.alloc _).cell 2 rfl
            go_simp
            clear cT
            refine hK.out _ _ hHeld (fun hHeld => ?_)
            clear hK K
            refine wpAnyH_ready (rs := [10]) (by kernel_rfl) (by simp) ?_
            refine AllReadyH.cons rfl (fun K hK => ?_) AllReadyH.nil
            refine step_append_lies (w4.alloc (.cells #[.string nm, .string s] 70)) rfl _ _ 24 rfl _ 70 iA _ 2 32 Tryd.underlying24 hiA.out heA.out.1 heA.out.2.2 heA.out.2.1 rfl (by decide) (.slice av xs.length capv) xs.length css.flatten rfl ((GrowOwn.stay AttrOwn_stays hgr (w' := (w4.alloc (.cells #[.string nm, .string s] 70))) (by simp; omega) (fun b q1 q2 => by rw [Below.heap_alloc _ _ _ (by omega), hg4'.out.block b q2 (fun e => by injection e with e; omega)])).row) ⟨w4.heap.size, 0, none⟩ 1 1 [.string nm, .string s] rfl rfl (by intro i u hu; match i, hu with | 0, hu => (simp at hu; subst hu; simp [Addr.add]) | 1, hu => (simp at hu; subst hu; simp [Addr.add]) | i + 2, hu => simp at hu) (by intro u hu; simp at hu; rcases hu with rfl | rfl <;> rfl) (by omega) (by have := hxl.out; unfold maxLen; omega) (by have := hxl.out; omega) (by simp; omega) _ rfl ?_
            intro g3 capg w5 hown5 hgrow5 hat5 hlt5
            have bT5 : Hid (Box w5 (w1.heap.size) [.string tag, .string ⟨#[]⟩, .slice av xs.length capv, .slice none 0 0] 27) := (hgrow5.block (w1.heap.size) (by simp; omega) (by intro e; have := hvb _ e.symm; omega)).trans (bT4.out.alloc _)
            go_simp
            refine hK.out _ _ (cell_grown hHeld hgrow5 (by intro e; have := hvb _ e; omega)) (fun hHeld => ?_)
            clear hK K
            refine tq (i := 11) (d := 36) ?_
            simp only [sz, ss]
            refine wpAnyH_ready (rs := [12]) (by kernel_rfl) (by simp) ?_
            refine AllReadyH.cons rfl (fun K hK => ?_) AllReadyH.nil
            have cT5 := bT5.out.cell 2 rfl
            have fT5 := bT5.out.unfrozen 2
            go_simp
            refine hK.out _ _ (cell_set hHeld (by omega) _) (fun hHeld => ?_)
            clear hK K
            refine wpAnyH_done (by kernel_rfl) ?_ _
            have hst4 : Hid (AtSt w g a nn cap w1.heap.size tag _ _ _) := AtSt.step hst2.out hgr hg4'.out hr4'.out (x := ⟨nm, s⟩) ⟨rfl, by show nm.size ≤ maxLen; have := hnm.out; unfold maxLen; omega, by show s.size ≤ maxLen; have := hs4'.out; unfold maxLen; omega, trivial⟩ rfl rfl hown5 hgrow5 hat5
            go_wp2_with fail
            go_roundw
            case rel => exact ⟨j + 1, _, xs ++ [⟨nm, s⟩], by omega, by go_num, by show _ ≤ _; have := hxl.out; simp; omega, hst4⟩
            case measure => simp [intOf]; omega
    · have hst2 : Hid (AtSt w g a nn cap w1.heap.size tag va xs wr) := hst
      generalize wr = w6 at *
      have hk0 : Hid (KdSt n w g a nn cap w1.heap.size w6.heap.size tag va xs (.slice none 0 0) [] w6) := KdSt.start hst2.out
      generalize hbase : w6.heap.size = base at hk0
      clear hbase
      have hrd6 : Hid (RdAt w6 g a nn cap) := hst2.out.2.2.2.2.1
      generalize xs = ats at *
      go_wp2_with fail
      refine (below_any hrd6.out 4 (by omega) (by omega)).mono ?_
      rintro e w7 ⟨u, rfl, u0, u1, hr7, hg7⟩
      have hk7 : Hid (KdSt n w g a nn cap w1.heap.size base tag va ats (.slice none 0 0) [] w7) := KdSt.grown hk0.out hg7 hr7
      clear hr7 hg7
      go_wp2_with fail
      go_loopw [8, 9] (fun tx iv wr => ∃ (i : Int) (tb : Bool) (vk : Value) (xs : List MarkD), 0 ≤ i ∧ i ≤ u ∧ iv = .int .i64 i ∧ tx = .bool tb ∧ Hid ((xs.length : Int) ≤ u - i) ∧ Hid (KdSt n w g a nn cap w1.heap.size base tag va ats vk xs wr)) (fun _ iv _ => (intOf iv).toNat)
      case atStart => exact ⟨u, false, .slice none 0 0, [], u0, by omega, rfl, rfl, by show ((0 : Nat) : Int) ≤ u - u; omega, hk7⟩
      case round =>
        obtain ⟨i, tb, vk, xs, i0, i1, rfl, rfl, hxl, hst⟩ := hrel
        have hrdr : Hid (RdAt wr g a nn cap) := hst.out.2.2.2.2.1
        by_cases hi : 0 < i
        · by_cases hd : deep < 4
          · cases tb
            · go_wp2_with fail
              refine (once_any hrdr.out 2 (by omega) (by omega)).mono ?_
              rintro e w2 ⟨v, rfl, hr2, hg2⟩
              have hst2 : Hid (KdSt n w g a nn cap w1.heap.size base tag va ats vk xs w2) := KdSt.grown hst.out hg2 hr2
              have hrd2 : Hid (RdAt w2 g a nn cap) := hr2
              clear hr2 hg2
              cases v
              · obtain ⟨⟨bss, css, hgr⟩, bTr0, _, _, _, _, hbs, hgw, hwT, hTb⟩ := id hst2.out
                obtain ⟨av, capv, rfl⟩ := hgr.form
                have bTr : Hid (Box w2 w1.heap.size [.string tag, .string ⟨#[]⟩, va, .slice av xs.length capv] 27) := bTr0
                have hvb := own_ge hgr
                clear bTr0
                go_wp2_with fail
                refine wp_region_held_drew (S := fun w' => True) (by kernel_rfl) trivial (fun hHeld => ?_)
                refine tq (i := 0) (d := 61) ?_
                simp only [sz, ss]
                refine tq (i := 2) (d := 63) ?_
                simp only [sz, ss]
                refine tq (i := 3) (d := 64) ?_
                simp only [sz, ss]
                refine tq (i := 4) (d := 65) ?_
                simp only [sz, ss]
                refine wpAnyH_ready (rs := [1, 5]) (by kernel_rfl) (by simp) ?_
                refine (AllReadyH.cons rfl (fun K hK => ?_) (AllReadyH.cons rfl (fun K hK => ?_) AllReadyH.nil))
                · have cT : w2.drew.cell? ⟨w1.heap.size, 3, none⟩ = some (.slice av xs.length capv) := bTr.out.cell 3 rfl
                  go_simp
                  clear cT
                  refine hK.out _ _ trivial (fun hHeld => ?_)
                  clear hK K
                  refine wpAnyH_ready (rs := [5]) (by kernel_rfl) (by simp) ?_
                  refine AllReadyH.cons rfl (fun K hK => ?_) AllReadyH.nil
                  go_simp
                  refine (hS.out (by have := hdeep'.out; omega) (by have := hn4'.out; omega) _ g a nn cap (deep + 1) (by exact hrd2.out) (by have := hdeep'.out; omega)).mono ?_
                  rintro e w4 ⟨csk, xk, fsk, rfl, hok, hndk, hlok, hr4, hg4⟩
                  obtain ⟨kt, kx, q2, q3, rfl⟩ : ∃ (kt kx : ByteArray) (q2 q3 : Value), csk = [.string kt, .string kx, q2, q3] := by cases n with | zero => exact hok.elim | succ n => (obtain ⟨q2, q3, f2, f3, e, _⟩ := hok; exact ⟨_, _, q2, q3, e⟩)
                  obtain ⟨b2, l2, c2, b3, l3, c3, rfl, rfl⟩ : ∃ b2 l2 c2 b3 l3 c3, q2 = .slice b2 l2 c2 ∧ q3 = .slice b3 l3 c3 := by cases n with | zero => exact hok.elim | succ n => (obtain ⟨q2', q3', f2, f3, e, s2, s3, _⟩ := hok; simp only [List.cons.injEq] at e; obtain ⟨_, _, rfl, rfl, _⟩ := e; obtain ⟨x1, x2, x3⟩ := s2.form; obtain ⟨y1, y2, y3⟩ := s3.form; exact ⟨x1, _, x2, y1, _, y2, x3, y3⟩)
                  have hok' : Hid (MarkOwn n w4 _ xk fsk) := hok
                  have hndk' : Hid (fsk.Nodup) := hndk
                  have hlok' : Hid (∀ b ∈ fsk, w2.heap.size ≤ b) := hlok
                  clear hok hndk hlok
                  have hg4' : Hid (w2.grownBy w4 (some g)) := ⟨hg4.os, hg4.tape, hg4.output, hg4.size, hg4.block⟩
                  have hr4' : Hid (RdAt w4 g a nn cap) := hr4
                  have bT4 : Hid (Box w4 (w1.heap.size) [.string tag, .string ⟨#[]⟩, va, .slice av xs.length capv] 27) := box_other bTr.out (by omega) hg4'.out
                  have hz4 := hg4'.out.size
                  clear hg4 hr4
                  refine hK.out _ _ trivial (fun hHeld => ?_)
                  clear hK K
                  refine wpAnyH_ready (rs := [6]) (by kernel_rfl) (by simp) ?_
                  refine AllReadyH.cons rfl (fun K hK => ?_) AllReadyH.nil
                  go_simp
                  refine hK.out _ _ trivial (fun hHeld => ?_)
                  clear hK K
                  refine wpAnyH_ready (rs := [7]) (by kernel_rfl) (by simp) ?_
                  refine AllReadyH.cons rfl (fun K hK => ?_) AllReadyH.nil
                  refine step_append_lies (w4.alloc (.cells #[.string kt, .string kx, .slice b2 l2 c2, .slice b3 l3 c3] 27)) rfl _ _ 25 rfl _ 27 iM _ 4 80 Tryd.underlying25 hiM.out heM.out.1 heM.out.2.2 heM.out.2.1 rfl (by decide) (.slice av xs.length capv) xs.length css.flatten rfl ((GrowOwn.stay (MarkOwn_stays n) hgr (w' := (w4.alloc (.cells #[.string kt, .string kx, .slice b2 l2 c2, .slice b3 l3 c3] 27))) (by simp; omega) (fun b q1 q2 => by rw [Below.heap_alloc _ _ _ (by omega), hg4'.out.block b q2 (fun e => by injection e with e; omega)])).row) ⟨w4.heap.size, 0, none⟩ 1 1 [.string kt, .string kx, .slice b2 l2 c2, .slice b3 l3 c3] rfl rfl (by intro i u hu; match i, hu with | 0, hu => (simp at hu; subst hu; simp [Addr.add]) | 1, hu => (simp at hu; subst hu; simp [Addr.add]) | 2, hu => (simp at hu; subst hu; simp [Addr.add]) | 3, hu => (simp at hu; subst hu; simp [Addr.add]) | i + 4, hu => simp at hu) (by intro u hu; simp at hu; rcases hu with rfl | rfl | rfl | rfl <;> rfl) (by omega) (by have := hxl.out; unfold maxLen; omega) (by have := hxl.out; omega) (by simp; omega) _ rfl ?_
                  intro g3 capg w5 hown5 hgrow5 hat5 hlt5
                  have bT5 : Hid (Box w5 (w1.heap.size) [.string tag, .string ⟨#[]⟩, va, .slice av xs.length capv] 27) := (hgrow5.block (w1.heap.size) (by simp; omega) (by intro e; have := hvb _ e.symm; omega)).trans (bT4.out.alloc _)
                  go_simp
                  refine hK.out _ _ trivial (fun hHeld => ?_)
                  clear hK K
                  refine tq (i := 8) (d := 69) ?_
                  simp only [sz, ss]
                  refine wpAnyH_ready (rs := [9]) (by kernel_rfl) (by simp) ?_
                  refine AllReadyH.cons rfl (fun K hK => ?_) AllReadyH.nil
                  have cT5 := bT5.out.cell 3 rfl
                  have fT5 := bT5.out.unfrozen 3
                  go_simp
                  refine hK.out _ _ trivial (fun hHeld => ?_)
                  clear hK K
                  refine wpAnyH_done (by kernel_rfl) ?_ _
                  have hst4 : Hid (KdSt n w g a nn cap w1.heap.size base tag va ats _ _ _) := KdSt.step hst2.out hgr hg4'.out hr4'.out hok'.out hndk'.out hlok'.out rfl rfl hown5 hgrow5 hat5
                  go_wp2_with fail
                  go_roundw
                  case rel => exact ⟨i - 1, _, _, xs ++ [_], by omega, by omega, by go_num, rfl, by show _ ≤ _; have := hxl.out; simp; omega, hst4⟩
                  case measure => simp [intOf]; omega
                · go_simp
                  refine (hS.out (by have := hdeep'.out; omega) (by have := hn4'.out; omega) _ g a nn cap (deep + 1) (by exact hrd2.out) (by have := hdeep'.out; omega)).mono ?_
                  rintro e w4 ⟨csk, xk, fsk, rfl, hok, hndk, hlok, hr4, hg4⟩
                  obtain ⟨kt, kx, q2, q3, rfl⟩ : ∃ (kt kx : ByteArray) (q2 q3 : Value), csk = [.string kt, .string kx, q2, q3] := by cases n with | zero => exact hok.elim | succ n => (obtain ⟨q2, q3, f2, f3, e, _⟩ := hok; exact ⟨_, _, q2, q3, e⟩)
                  obtain ⟨b2, l2, c2, b3, l3, c3, rfl, rfl⟩ : ∃ b2 l2 c2 b3 l3 c3, q2 = .slice b2 l2 c2 ∧ q3 = .slice b3 l3 c3 := by cases n with | zero => exact hok.elim | succ n => (obtain ⟨q2', q3', f2, f3, e, s2, s3, _⟩ := hok; simp only [List.cons.injEq] at e; obtain ⟨_, _, rfl, rfl, _⟩ := e; obtain ⟨x1, x2, x3⟩ := s2.form; obtain ⟨y1, y2, y3⟩ := s3.form; exact ⟨x1, _, x2, y1, _, y2, x3, y3⟩)
                  have hok' : Hid (MarkOwn n w4 _ xk fsk) := hok
                  have hndk' : Hid (fsk.Nodup) := hndk
                  have hlok' : Hid (∀ b ∈ fsk, w2.heap.size ≤ b) := hlok
                  clear hok hndk hlok
                  have hg4' : Hid (w2.grownBy w4 (some g)) := ⟨hg4.os, hg4.tape, hg4.output, hg4.size, hg4.block⟩
                  have hr4' : Hid (RdAt w4 g a nn cap) := hr4
                  have bT4 : Hid (Box w4 (w1.heap.size) [.string tag, .string ⟨#[]⟩, va, .slice av xs.length capv] 27) := box_other bTr.out (by omega) hg4'.out
                  have hz4 := hg4'.out.size
                  clear hg4 hr4
                  refine hK.out _ _ trivial (fun hHeld => ?_)
                  clear hK K
                  refine wpAnyH_ready (rs := [1, 6]) (by kernel_rfl) (by simp) ?_
                  refine (AllReadyH.cons rfl (fun K hK => ?_) (AllReadyH.cons rfl (fun K hK => ?_) AllReadyH.nil))
                  · have cT : w4.cell? ⟨w1.heap.size, 3, none⟩ = some (.slice av xs.length capv) := bT4.out.cell 3 rfl
                    go_simp
                    clear cT
                    refine hK.out _ _ trivial (fun hHeld => ?_)
                    clear hK K
                    refine wpAnyH_ready (rs := [6]) (by kernel_rfl) (by simp) ?_
                    refine AllReadyH.cons rfl (fun K hK => ?_) AllReadyH.nil
                    go_simp
                    refine hK.out _ _ trivial (fun hHeld => ?_)
                    clear hK K
                    refine wpAnyH_ready (rs := [7]) (by kernel_rfl) (by simp) ?_
                    refine AllReadyH.cons rfl (fun K hK => ?_) AllReadyH.nil
                    refine step_append_lies (w4.alloc (.cells #[.string kt, .string kx, .slice b2 l2 c2, .slice b3 l3 c3] 27)) rfl _ _ 25 rfl _ 27 iM _ 4 80 Tryd.underlying25 hiM.out heM.out.1 heM.out.2.2 heM.out.2.1 rfl (by decide) (.slice av xs.length capv) xs.length css.flatten rfl ((GrowOwn.stay (MarkOwn_stays n) hgr (w' := (w4.alloc (.cells #[.string kt, .string kx, .slice b2 l2 c2, .slice b3 l3 c3] 27))) (by simp; omega) (fun b q1 q2 => by rw [Below.heap_alloc _ _ _ (by omega), hg4'.out.block b q2 (fun e => by injection e with e; omega)])).row) ⟨w4.heap.size, 0, none⟩ 1 1 [.string kt, .string kx, .slice b2 l2 c2, .slice b3 l3 c3] rfl rfl (by intro i u hu; match i, hu with | 0, hu => (simp at hu; subst hu; simp [Addr.add]) | 1, hu => (simp at hu; subst hu; simp [Addr.add]) | 2, hu => (simp at hu; subst hu; simp [Addr.add]) | 3, hu => (simp at hu; subst hu; simp [Addr.add]) | i + 4, hu => simp at hu) (by intro u hu; simp at hu; rcases hu with rfl | rfl | rfl | rfl <;> rfl) (by omega) (by have := hxl.out; unfold maxLen; omega) (by have := hxl.out; omega) (by simp; omega) _ rfl ?_
                    intro g3 capg w5 hown5 hgrow5 hat5 hlt5
                    have bT5 : Hid (Box w5 (w1.heap.size) [.string tag, .string ⟨#[]⟩, va, .slice av xs.length capv] 27) := (hgrow5.block (w1.heap.size) (by simp; omega) (by intro e; have := hvb _ e.symm; omega)).trans (bT4.out.alloc _)
                    go_simp
                    refine hK.out _ _ trivial (fun hHeld => ?_)
                    clear hK K
                    refine tq (i := 8) (d := 69) ?_
                    simp only [sz, ss]
                    refine wpAnyH_ready (rs := [9]) (by kernel_rfl) (by simp) ?_
                    refine AllReadyH.cons rfl (fun K hK => ?_) AllReadyH.nil
                    have cT5 := bT5.out.cell 3 rfl
                    have fT5 := bT5.out.unfrozen 3
                    go_simp
                    refine hK.out _ _ trivial (fun hHeld => ?_)
                    clear hK K
                    refine wpAnyH_done (by kernel_rfl) ?_ _
                    have hst4 : Hid (KdSt n w g a nn cap w1.heap.size base tag va ats _ _ _) := KdSt.step hst2.out hgr hg4'.out hr4'.out hok'.out hndk'.out hlok'.out rfl rfl hown5 hgrow5 hat5
                    go_wp2_with fail
                    go_roundw
                    case rel => exact ⟨i - 1, _, _, xs ++ [_], by omega, by omega, by go_num, rfl, by show _ ≤ _; have := hxl.out; simp; omega, hst4⟩
                    case measure => simp [intOf]; omega
                  · go_simp
                    refine hK.out _ _ trivial (fun hHeld => ?_)
                    clear hK K
                    refine wpAnyH_ready (rs := [1]) (by kernel_rfl) (by simp) ?_
                    refine AllReadyH.cons rfl (fun K hK => ?_) AllReadyH.nil
                    have cT : (w4.alloc (.cells #[.string kt, .string kx, .slice b2 l2 c2, .slice b3 l3 c3] 27)).cell? ⟨w1.heap.size, 3, none⟩ = some (.slice av xs.length capv) := (bT4.out.alloc _).cell 3 rfl
                    go_simp
                    clear cT
                    refine hK.out _ _ trivial (fun hHeld => ?_)
                    clear hK K
                    refine wpAnyH_ready (rs := [7]) (by kernel_rfl) (by simp) ?_
                    refine AllReadyH.cons rfl (fun K hK => ?_) AllReadyH.nil
                    refine step_append_lies (w4.alloc (.cells #[.string kt, .string kx, .slice b2 l2 c2, .slice b3 l3 c3] 27)) rfl _ _ 25 rfl _ 27 iM _ 4 80 Tryd.underlying25 hiM.out heM.out.1 heM.out.2.2 heM.out.2.1 rfl (by decide) (.slice av xs.length capv) xs.length css.flatten rfl ((GrowOwn.stay (MarkOwn_stays n) hgr (w' := (w4.alloc (.cells #[.string kt, .string kx, .slice b2 l2 c2, .slice b3 l3 c3] 27))) (by simp; omega) (fun b q1 q2 => by rw [Below.heap_alloc _ _ _ (by omega), hg4'.out.block b q2 (fun e => by injection e with e; omega)])).row) ⟨w4.heap.size, 0, none⟩ 1 1 [.string kt, .string kx, .slice b2 l2 c2, .slice b3 l3 c3] rfl rfl (by intro i u hu; match i, hu with | 0, hu => (simp at hu; subst hu; simp [Addr.add]) | 1, hu => (simp at hu; subst hu; simp [Addr.add]) | 2, hu => (simp at hu; subst hu; simp [Addr.add]) | 3, hu => (simp at hu; subst hu; simp [Addr.add]) | i + 4, hu => simp at hu) (by intro u hu; simp at hu; rcases hu with rfl | rfl | rfl | rfl <;> rfl) (by omega) (by have := hxl.out; unfold maxLen; omega) (by have := hxl.out; omega) (by simp; omega) _ rfl ?_
                    intro g3 capg w5 hown5 hgrow5 hat5 hlt5
                    have bT5 : Hid (Box w5 (w1.heap.size) [.string tag, .string ⟨#[]⟩, va, .slice av xs.length capv] 27) := (hgrow5.block (w1.heap.size) (by simp; omega) (by intro e; have := hvb _ e.symm; omega)).trans (bT4.out.alloc _)
                    go_simp
                    refine hK.out _ _ trivial (fun hHeld => ?_)
                    clear hK K
                    refine tq (i := 8) (d := 69) ?_
                    simp only [sz, ss]
                    refine wpAnyH_ready (rs := [9]) (by kernel_rfl) (by simp) ?_
                    refine AllReadyH.cons rfl (fun K hK => ?_) AllReadyH.nil
                    have cT5 := bT5.out.cell 3 rfl
                    have fT5 := bT5.out.unfrozen 3
                    go_simp
                    refine hK.out _ _ trivial (fun hHeld => ?_)
                    clear hK K
                    refine wpAnyH_done (by kernel_rfl) ?_ _
                    have hst4 : Hid (KdSt n w g a nn cap w1.heap.size base tag va ats _ _ _) := KdSt.step hst2.out hgr hg4'.out hr4'.out hok'.out hndk'.out hlok'.out rfl rfl hown5 hgrow5 hat5
                    go_wp2_with fail
                    go_roundw
                    case rel => exact ⟨i - 1, _, _, xs ++ [_], by omega, by omega, by go_num, rfl, by show _ ≤ _; have := hxl.out; simp; omega, hst4⟩
                    case measure => simp [intOf]; omega
              · obtain ⟨⟨bss, css, hgr⟩, bTr0, _, _, _, _, hbs, hgw, hwT, hTb⟩ := id hst2.out
                obtain ⟨av, capv, rfl⟩ := hgr.form
                have bTr : Hid (Box w2 w1.heap.size [.string tag, .string ⟨#[]⟩, va, .slice av xs.length capv] 27) := bTr0
                have hvb := own_ge hgr
                clear bTr0
                have hmt : Hid (∀ (w' : World) (s : ByteArray), s.size ≤ 4 → MarkOwn n w' [.string ⟨#[]⟩, .string s, .slice none 0 0, .slice none 0 0] (MarkD.mk ⟨#[]⟩ s [] []) []) := by
                  intro w' s hs
                  obtain ⟨m, rfl⟩ : ∃ m, n = m + 1 := ⟨n - 1, by have := hdeep'.out; omega⟩
                  exact MarkOwn_text m w' s (by unfold maxLen; omega)
                go_wp2_with fail
                refine wp_region_held_drew (S := fun w' => True) (by kernel_rfl) trivial (fun hHeld => ?_)
                refine tq (i := 0) (d := 53) ?_
                simp only [sz, ss]
                refine tq (i := 2) (d := 55) ?_
                simp only [sz, ss]
                refine wpAnyH_ready (rs := [1, 3]) (by kernel_rfl) (by simp) ?_
                refine (AllReadyH.cons rfl (fun K hK => ?_) (AllReadyH.cons rfl (fun K hK => ?_) AllReadyH.nil))
                · have cT : w2.drew.cell? ⟨w1.heap.size, 3, none⟩ = some (.slice av xs.length capv) := bTr.out.cell 3 rfl
                  go_simp
                  clear cT
                  refine hK.out _ _ trivial (fun hHeld => ?_)
                  clear hK K
                  refine wpAnyH_ready (rs := [3]) (by kernel_rfl) (by simp) ?_
                  refine AllReadyH.cons rfl (fun K hK => ?_) AllReadyH.nil
                  go_simp
                  refine (signs_any (by exact hrd2.out)).mono ?_
                  rintro e w4 ⟨s, rfl, hs4, hr4, hg4⟩
                  have hs4' : Hid (s.size ≤ 4) := hs4
                  have hg4' : Hid (w2.grownBy w4 (some g)) := ⟨hg4.os, hg4.tape, hg4.output, hg4.size, hg4.block⟩
                  have hr4' : Hid (RdAt w4 g a nn cap) := hr4
                  have bT4 : Hid (Box w4 (w1.heap.size) [.string tag, .string ⟨#[]⟩, va, .slice av xs.length capv] 27) := box_other bTr.out (by omega) hg4'.out
                  have hz4 := hg4'.out.size
                  clear hg4 hr4
                  refine hK.out _ _ trivial (fun hHeld => ?_)
                  clear hK K
                  refine tq (i := 4) (d := 57) ?_
                  simp only [sz, ss]
                  refine wpAnyH_ready (rs := [5]) (by kernel_rfl) (by simp) ?_
                  refine AllReadyH.cons rfl (fun K hK => ?_) AllReadyH.nil
                  go_simp
                  refine hK.out _ _ trivial (fun hHeld => ?_)
                  clear hK K
                  refine wpAnyH_ready (rs := [6]) (by kernel_rfl) (by simp) ?_
                  refine AllReadyH.cons rfl (fun K hK => ?_) AllReadyH.nil
                  refine step_append_lies (w4.alloc (.cells #[.string ⟨#[]⟩, .string s, .slice none 0 0, .slice none 0 0] 27)) rfl _ _ 25 rfl _ 27 iM _ 4 80 Tryd.underlying25 hiM.out heM.out.1 heM.out.2.2 heM.out.2.1 rfl (by decide) (.slice av xs.length capv) xs.length css.flatten rfl ((GrowOwn.stay (MarkOwn_stays n) hgr (w' := (w4.alloc (.cells #[.string ⟨#[]⟩, .string s, .slice none 0 0, .slice none 0 0] 27))) (by simp; omega) (fun b q1 q2 => by rw [Below.heap_alloc _ _ _ (by omega), hg4'.out.block b q2 (fun e => by injection e with e; omega)])).row) ⟨w4.heap.size, 0, none⟩ 1 1 [.string ⟨#[]⟩, .string s, .slice none 0 0, .slice none 0 0] rfl rfl (by intro i u hu; match i, hu with | 0, hu => (simp at hu; subst hu; simp [Addr.add]) | 1, hu => (simp at hu; subst hu; simp [Addr.add]) | 2, hu => (simp at hu; subst hu; simp [Addr.add]) | 3, hu => (simp at hu; subst hu; simp [Addr.add]) | i + 4, hu => simp at hu) (by intro u hu; simp at hu; rcases hu with rfl | rfl | rfl | rfl <;> rfl) (by omega) (by have := hxl.out; unfold maxLen; omega) (by have := hxl.out; omega) (by simp; omega) _ rfl ?_
                  intro g3 capg w5 hown5 hgrow5 hat5 hlt5
                  have bT5 : Hid (Box w5 (w1.heap.size) [.string tag, .string ⟨#[]⟩, va, .slice av xs.length capv] 27) := (hgrow5.block (w1.heap.size) (by simp; omega) (by intro e; have := hvb _ e.symm; omega)).trans (bT4.out.alloc _)
                  go_simp
                  refine hK.out _ _ trivial (fun hHeld => ?_)
                  clear hK K
                  refine tq (i := 7) (d := 60) ?_
                  simp only [sz, ss]
                  refine wpAnyH_ready (rs := [8]) (by kernel_rfl) (by simp) ?_
                  refine AllReadyH.cons rfl (fun K hK => ?_) AllReadyH.nil
                  have cT5 := bT5.out.cell 3 rfl
                  have fT5 := bT5.out.unfrozen 3
                  go_simp
                  refine hK.out _ _ trivial (fun hHeld => ?_)
                  clear hK K
                  refine wpAnyH_done (by kernel_rfl) ?_ _
                  have hst4 : Hid (KdSt n w g a nn cap w1.heap.size base tag va ats _ _ _) := KdSt.step hst2.out hgr hg4'.out hr4'.out (hmt.out _ s hs4'.out) List.nodup_nil (by intro b hb; cases hb) rfl rfl hown5 hgrow5 hat5
                  go_wp2_with fail
                  go_roundw
                  case rel => exact ⟨i - 1, _, _, xs ++ [_], by omega, by omega, by go_num, rfl, by show _ ≤ _; have := hxl.out; simp; omega, hst4⟩
                  case measure => simp [intOf]; omega
                · go_simp
                  refine (signs_any (by exact hrd2.out)).mono ?_
                  rintro e w4 ⟨s, rfl, hs4, hr4, hg4⟩
                  have hs4' : Hid (s.size ≤ 4) := hs4
                  have hg4' : Hid (w2.grownBy w4 (some g)) := ⟨hg4.os, hg4.tape, hg4.output, hg4.size, hg4.block⟩
                  have hr4' : Hid (RdAt w4 g a nn cap) := hr4
                  have bT4 : Hid (Box w4 (w1.heap.size) [.string tag, .string ⟨#[]⟩, va, .slice av xs.length capv] 27) := box_other bTr.out (by omega) hg4'.out
                  have hz4 := hg4'.out.size
                  clear hg4 hr4
                  refine hK.out _ _ trivial (fun hHeld => ?_)
                  clear hK K
                  refine tq (i := 4) (d := 57) ?_
                  simp only [sz, ss]
                  refine wpAnyH_ready (rs := [1, 5]) (by kernel_rfl) (by simp) ?_
                  refine (AllReadyH.cons rfl (fun K hK => ?_) (AllReadyH.cons rfl (fun K hK => ?_) AllReadyH.nil))
                  · have cT : w4.cell? ⟨w1.heap.size, 3, none⟩ = some (.slice av xs.length capv) := bT4.out.cell 3 rfl
                    go_simp
                    clear cT
                    refine hK.out _ _ trivial (fun hHeld => ?_)
                    clear hK K
                    refine wpAnyH_ready (rs := [5]) (by kernel_rfl) (by simp) ?_
                    refine AllReadyH.cons rfl (fun K hK => ?_) AllReadyH.nil
                    go_simp
                    refine hK.out _ _ trivial (fun hHeld => ?_)
                    clear hK K
                    refine wpAnyH_ready (rs := [6]) (by kernel_rfl) (by simp) ?_
                    refine AllReadyH.cons rfl (fun K hK => ?_) AllReadyH.nil
                    refine step_append_lies (w4.alloc (.cells #[.string ⟨#[]⟩, .string s, .slice none 0 0, .slice none 0 0] 27)) rfl _ _ 25 rfl _ 27 iM _ 4 80 Tryd.underlying25 hiM.out heM.out.1 heM.out.2.2 heM.out.2.1 rfl (by decide) (.slice av xs.length capv) xs.length css.flatten rfl ((GrowOwn.stay (MarkOwn_stays n) hgr (w' := (w4.alloc (.cells #[.string ⟨#[]⟩, .string s, .slice none 0 0, .slice none 0 0] 27))) (by simp; omega) (fun b q1 q2 => by rw [Below.heap_alloc _ _ _ (by omega), hg4'.out.block b q2 (fun e => by injection e with e; omega)])).row) ⟨w4.heap.size, 0, none⟩ 1 1 [.string ⟨#[]⟩, .string s, .slice none 0 0, .slice none 0 0] rfl rfl (by intro i u hu; match i, hu with | 0, hu => (simp at hu; subst hu; simp [Addr.add]) | 1, hu => (simp at hu; subst hu; simp [Addr.add]) | 2, hu => (simp at hu; subst hu; simp [Addr.add]) | 3, hu => (simp at hu; subst hu; simp [Addr.add]) | i + 4, hu => simp at hu) (by intro u hu; simp at hu; rcases hu with rfl | rfl | rfl | rfl <;> rfl) (by omega) (by have := hxl.out; unfold maxLen; omega) (by have := hxl.out; omega) (by simp; omega) _ rfl ?_
                    intro g3 capg w5 hown5 hgrow5 hat5 hlt5
                    have bT5 : Hid (Box w5 (w1.heap.size) [.string tag, .string ⟨#[]⟩, va, .slice av xs.length capv] 27) := (hgrow5.block (w1.heap.size) (by simp; omega) (by intro e; have := hvb _ e.symm; omega)).trans (bT4.out.alloc _)
                    go_simp
                    refine hK.out _ _ trivial (fun hHeld => ?_)
                    clear hK K
                    refine tq (i := 7) (d := 60) ?_
                    simp only [sz, ss]
                    refine wpAnyH_ready (rs := [8]) (by kernel_rfl) (by simp) ?_
                    refine AllReadyH.cons rfl (fun K hK => ?_) AllReadyH.nil
                    have cT5 := bT5.out.cell 3 rfl
                    have fT5 := bT5.out.unfrozen 3
                    go_simp
                    refine hK.out _ _ trivial (fun hHeld => ?_)
                    clear hK K
                    refine wpAnyH_done (by kernel_rfl) ?_ _
                    have hst4 : Hid (KdSt n w g a nn cap w1.heap.size base tag va ats _ _ _) := KdSt.step hst2.out hgr hg4'.out hr4'.out (hmt.out _ s hs4'.out) List.nodup_nil (by intro b hb; cases hb) rfl rfl hown5 hgrow5 hat5
                    go_wp2_with fail
                    go_roundw
                    case rel => exact ⟨i - 1, _, _, xs ++ [_], by omega, by omega, by go_num, rfl, by show _ ≤ _; have := hxl.out; simp; omega, hst4⟩
                    case measure => simp [intOf]; omega
                  · go_simp
                    refine hK.out _ _ trivial (fun hHeld => ?_)
                    clear hK K
                    refine wpAnyH_ready (rs := [1]) (by kernel_rfl) (by simp) ?_
                    refine AllReadyH.cons rfl (fun K hK => ?_) AllReadyH.nil
                    have cT : (w4.alloc (.cells #[.string ⟨#[]⟩, .string s, .slice none 0 0, .slice none 0 0] 27)).cell? ⟨w1.heap.size, 3, none⟩ = some (.slice av xs.length capv) := (bT4.out.alloc _).cell 3 rfl
                    go_simp
                    clear cT
                    refine hK.out _ _ trivial (fun hHeld => ?_)
                    clear hK K
                    refine wpAnyH_ready (rs := [6]) (by kernel_rfl) (by simp) ?_
                    refine AllReadyH.cons rfl (fun K hK => ?_) AllReadyH.nil
                    refine step_append_lies (w4.alloc (.cells #[.string ⟨#[]⟩, .string s, .slice none 0 0, .slice none 0 0] 27)) rfl _ _ 25 rfl _ 27 iM _ 4 80 Tryd.underlying25 hiM.out heM.out.1 heM.out.2.2 heM.out.2.1 rfl (by decide) (.slice av xs.length capv) xs.length css.flatten rfl ((GrowOwn.stay (MarkOwn_stays n) hgr (w' := (w4.alloc (.cells #[.string ⟨#[]⟩, .string s, .slice none 0 0, .slice none 0 0] 27))) (by simp; omega) (fun b q1 q2 => by rw [Below.heap_alloc _ _ _ (by omega), hg4'.out.block b q2 (fun e => by injection e with e; omega)])).row) ⟨w4.heap.size, 0, none⟩ 1 1 [.string ⟨#[]⟩, .string s, .slice none 0 0, .slice none 0 0] rfl rfl (by intro i u hu; match i, hu with | 0, hu => (simp at hu; subst hu; simp [Addr.add]) | 1, hu => (simp at hu; subst hu; simp [Addr.add]) | 2, hu => (simp at hu; subst hu; simp [Addr.add]) | 3, hu => (simp at hu; subst hu; simp [Addr.add]) | i + 4, hu => simp at hu) (by intro u hu; simp at hu; rcases hu with rfl | rfl | rfl | rfl <;> rfl) (by omega) (by have := hxl.out; unfold maxLen; omega) (by have := hxl.out; omega) (by simp; omega) _ rfl ?_
                    intro g3 capg w5 hown5 hgrow5 hat5 hlt5
                    have bT5 : Hid (Box w5 (w1.heap.size) [.string tag, .string ⟨#[]⟩, va, .slice av xs.length capv] 27) := (hgrow5.block (w1.heap.size) (by simp; omega) (by intro e; have := hvb _ e.symm; omega)).trans (bT4.out.alloc _)
                    go_simp
                    refine hK.out _ _ trivial (fun hHeld => ?_)
                    clear hK K
                    refine tq (i := 7) (d := 60) ?_
                    simp only [sz, ss]
                    refine wpAnyH_ready (rs := [8]) (by kernel_rfl) (by simp) ?_
                    refine AllReadyH.cons rfl (fun K hK => ?_) AllReadyH.nil
                    have cT5 := bT5.out.cell 3 rfl
                    have fT5 := bT5.out.unfrozen 3
                    go_simp
                    refine hK.out _ _ trivial (fun hHeld => ?_)
                    clear hK K
                    refine wpAnyH_done (by kernel_rfl) ?_ _
                    have hst4 : Hid (KdSt n w g a nn cap w1.heap.size base tag va ats _ _ _) := KdSt.step hst2.out hgr hg4'.out hr4'.out (hmt.out _ s hs4'.out) List.nodup_nil (by intro b hb; cases hb) rfl rfl hown5 hgrow5 hat5
                    go_wp2_with fail
                    go_roundw
                    case rel => exact ⟨i - 1, _, _, xs ++ [_], by omega, by omega, by go_num, rfl, by show _ ≤ _; have := hxl.out; simp; omega, hst4⟩
                    case measure => simp [intOf]; omega
            · have hst2 : Hid (KdSt n w g a nn cap w1.heap.size base tag va ats vk xs wr) := hst
              have hrd2 : Hid (RdAt wr g a nn cap) := hrdr
              generalize wr = w2 at *
              obtain ⟨⟨bss, css, hgr⟩, bTr0, _, _, _, _, hbs, hgw, hwT, hTb⟩ := id hst2.out
              obtain ⟨av, capv, rfl⟩ := hgr.form
              have bTr : Hid (Box w2 w1.heap.size [.string tag, .string ⟨#[]⟩, va, .slice av xs.length capv] 27) := bTr0
              have hvb := own_ge hgr
              clear bTr0
              go_wp2_with fail
              refine wp_region_held_drew (S := fun w' => True) (by kernel_rfl) trivial (fun hHeld => ?_)
              refine tq (i := 0) (d := 61) ?_
              simp only [sz, ss]
              refine tq (i := 2) (d := 63) ?_
              simp only [sz, ss]
              refine tq (i := 3) (d := 64) ?_
              simp only [sz, ss]
              refine tq (i := 4) (d := 65) ?_
              simp only [sz, ss]
              refine wpAnyH_ready (rs := [1, 5]) (by kernel_rfl) (by simp) ?_
              refine (AllReadyH.cons rfl (fun K hK => ?_) (AllReadyH.cons rfl (fun K hK => ?_) AllReadyH.nil))
              · have cT : w2.drew.cell? ⟨w1.heap.size, 3, none⟩ = some (.slice av xs.length capv) := bTr.out.cell 3 rfl
                go_simp
                clear cT
                refine hK.out _ _ trivial (fun hHeld => ?_)
                clear hK K
                refine wpAnyH_ready (rs := [5]) (by kernel_rfl) (by simp) ?_
                refine AllReadyH.cons rfl (fun K hK => ?_) AllReadyH.nil
                go_simp
                refine (hS.out (by have := hdeep'.out; omega) (by have := hn4'.out; omega) _ g a nn cap (deep + 1) (by exact hrd2.out) (by have := hdeep'.out; omega)).mono ?_
                rintro e w4 ⟨csk, xk, fsk, rfl, hok, hndk, hlok, hr4, hg4⟩
                obtain ⟨kt, kx, q2, q3, rfl⟩ : ∃ (kt kx : ByteArray) (q2 q3 : Value), csk = [.string kt, .string kx, q2, q3] := by cases n with | zero => exact hok.elim | succ n => (obtain ⟨q2, q3, f2, f3, e, _⟩ := hok; exact ⟨_, _, q2, q3, e⟩)
                obtain ⟨b2, l2, c2, b3, l3, c3, rfl, rfl⟩ : ∃ b2 l2 c2 b3 l3 c3, q2 = .slice b2 l2 c2 ∧ q3 = .slice b3 l3 c3 := by cases n with | zero => exact hok.elim | succ n => (obtain ⟨q2', q3', f2, f3, e, s2, s3, _⟩ := hok; simp only [List.cons.injEq] at e; obtain ⟨_, _, rfl, rfl, _⟩ := e; obtain ⟨x1, x2, x3⟩ := s2.form; obtain ⟨y1, y2, y3⟩ := s3.form; exact ⟨x1, _, x2, y1, _, y2, x3, y3⟩)
                have hok' : Hid (MarkOwn n w4 _ xk fsk) := hok
                have hndk' : Hid (fsk.Nodup) := hndk
                have hlok' : Hid (∀ b ∈ fsk, w2.heap.size ≤ b) := hlok
                clear hok hndk hlok
                have hg4' : Hid (w2.grownBy w4 (some g)) := ⟨hg4.os, hg4.tape, hg4.output, hg4.size, hg4.block⟩
                have hr4' : Hid (RdAt w4 g a nn cap) := hr4
                have bT4 : Hid (Box w4 (w1.heap.size) [.string tag, .string ⟨#[]⟩, va, .slice av xs.length capv] 27) := box_other bTr.out (by omega) hg4'.out
                have hz4 := hg4'.out.size
                clear hg4 hr4
                refine hK.out _ _ trivial (fun hHeld => ?_)
                clear hK K
                refine wpAnyH_ready (rs := [6]) (by kernel_rfl) (by simp) ?_
                refine AllReadyH.cons rfl (fun K hK => ?_) AllReadyH.nil
                go_simp
                refine hK.out _ _ trivial (fun hHeld => ?_)
                clear hK K
                refine wpAnyH_ready (rs := [7]) (by kernel_rfl) (by simp) ?_
                refine AllReadyH.cons rfl (fun K hK => ?_) AllReadyH.nil
                refine step_append_lies (w4.alloc (.cells #[.string kt, .string kx, .slice b2 l2 c2, .slice b3 l3 c3] 27)) rfl _ _ 25 rfl _ 27 iM _ 4 80 Tryd.underlying25 hiM.out heM.out.1 heM.out.2.2 heM.out.2.1 rfl (by decide) (.slice av xs.length capv) xs.length css.flatten rfl ((GrowOwn.stay (MarkOwn_stays n) hgr (w' := (w4.alloc (.cells #[.string kt, .string kx, .slice b2 l2 c2, .slice b3 l3 c3] 27))) (by simp; omega) (fun b q1 q2 => by rw [Below.heap_alloc _ _ _ (by omega), hg4'.out.block b q2 (fun e => by injection e with e; omega)])).row) ⟨w4.heap.size, 0, none⟩ 1 1 [.string kt, .string kx, .slice b2 l2 c2, .slice b3 l3 c3] rfl rfl (by intro i u hu; match i, hu with | 0, hu => (simp at hu; subst hu; simp [Addr.add]) | 1, hu => (simp at hu; subst hu; simp [Addr.add]) | 2, hu => (simp at hu; subst hu; simp [Addr.add]) | 3, hu => (simp at hu; subst hu; simp [Addr.add]) | i + 4, hu => simp at hu) (by intro u hu; simp at hu; rcases hu with rfl | rfl | rfl | rfl <;> rfl) (by omega) (by have := hxl.out; unfold maxLen; omega) (by have := hxl.out; omega) (by simp; omega) _ rfl ?_
                intro g3 capg w5 hown5 hgrow5 hat5 hlt5
                have bT5 : Hid (Box w5 (w1.heap.size) [.string tag, .string ⟨#[]⟩, va, .slice av xs.length capv] 27) := (hgrow5.block (w1.heap.size) (by simp; omega) (by intro e; have := hvb _ e.symm; omega)).trans (bT4.out.alloc _)
                go_simp
                refine hK.out _ _ trivial (fun hHeld => ?_)
                clear hK K
                refine tq (i := 8) (d := 69) ?_
                simp only [sz, ss]
                refine wpAnyH_ready (rs := [9]) (by kernel_rfl) (by simp) ?_
                refine AllReadyH.cons rfl (fun K hK => ?_) AllReadyH.nil
                have cT5 := bT5.out.cell 3 rfl
                have fT5 := bT5.out.unfrozen 3
                go_simp
                refine hK.out _ _ trivial (fun hHeld => ?_)
                clear hK K
                refine wpAnyH_done (by kernel_rfl) ?_ _
                have hst4 : Hid (KdSt n w g a nn cap w1.heap.size base tag va ats _ _ _) := KdSt.step hst2.out hgr hg4'.out hr4'.out hok'.out hndk'.out hlok'.out rfl rfl hown5 hgrow5 hat5
                go_wp2_with fail
                go_roundw
                case rel => exact ⟨i - 1, _, _, xs ++ [_], by omega, by omega, by go_num, rfl, by show _ ≤ _; have := hxl.out; simp; omega, hst4⟩
                case measure => simp [intOf]; omega
              · go_simp
                refine (hS.out (by have := hdeep'.out; omega) (by have := hn4'.out; omega) _ g a nn cap (deep + 1) (by exact hrd2.out) (by have := hdeep'.out; omega)).mono ?_
                rintro e w4 ⟨csk, xk, fsk, rfl, hok, hndk, hlok, hr4, hg4⟩
                obtain ⟨kt, kx, q2, q3, rfl⟩ : ∃ (kt kx : ByteArray) (q2 q3 : Value), csk = [.string kt, .string kx, q2, q3] := by cases n with | zero => exact hok.elim | succ n => (obtain ⟨q2, q3, f2, f3, e, _⟩ := hok; exact ⟨_, _, q2, q3, e⟩)
                obtain ⟨b2, l2, c2, b3, l3, c3, rfl, rfl⟩ : ∃ b2 l2 c2 b3 l3 c3, q2 = .slice b2 l2 c2 ∧ q3 = .slice b3 l3 c3 := by cases n with | zero => exact hok.elim | succ n => (obtain ⟨q2', q3', f2, f3, e, s2, s3, _⟩ := hok; simp only [List.cons.injEq] at e; obtain ⟨_, _, rfl, rfl, _⟩ := e; obtain ⟨x1, x2, x3⟩ := s2.form; obtain ⟨y1, y2, y3⟩ := s3.form; exact ⟨x1, _, x2, y1, _, y2, x3, y3⟩)
                have hok' : Hid (MarkOwn n w4 _ xk fsk) := hok
                have hndk' : Hid (fsk.Nodup) := hndk
                have hlok' : Hid (∀ b ∈ fsk, w2.heap.size ≤ b) := hlok
                clear hok hndk hlok
                have hg4' : Hid (w2.grownBy w4 (some g)) := ⟨hg4.os, hg4.tape, hg4.output, hg4.size, hg4.block⟩
                have hr4' : Hid (RdAt w4 g a nn cap) := hr4
                have bT4 : Hid (Box w4 (w1.heap.size) [.string tag, .string ⟨#[]⟩, va, .slice av xs.length capv] 27) := box_other bTr.out (by omega) hg4'.out
                have hz4 := hg4'.out.size
                clear hg4 hr4
                refine hK.out _ _ trivial (fun hHeld => ?_)
                clear hK K
                refine wpAnyH_ready (rs := [1, 6]) (by kernel_rfl) (by simp) ?_
                refine (AllReadyH.cons rfl (fun K hK => ?_) (AllReadyH.cons rfl (fun K hK => ?_) AllReadyH.nil))
                · have cT : w4.cell? ⟨w1.heap.size, 3, none⟩ = some (.slice av xs.length capv) := bT4.out.cell 3 rfl
                  go_simp
                  clear cT
                  refine hK.out _ _ trivial (fun hHeld => ?_)
                  clear hK K
                  refine wpAnyH_ready (rs := [6]) (by kernel_rfl) (by simp) ?_
                  refine AllReadyH.cons rfl (fun K hK => ?_) AllReadyH.nil
                  go_simp
                  refine hK.out _ _ trivial (fun hHeld => ?_)
                  clear hK K
                  refine wpAnyH_ready (rs := [7]) (by kernel_rfl) (by simp) ?_
                  refine AllReadyH.cons rfl (fun K hK => ?_) AllReadyH.nil
                  refine step_append_lies (w4.alloc (.cells #[.string kt, .string kx, .slice b2 l2 c2, .slice b3 l3 c3] 27)) rfl _ _ 25 rfl _ 27 iM _ 4 80 Tryd.underlying25 hiM.out heM.out.1 heM.out.2.2 heM.out.2.1 rfl (by decide) (.slice av xs.length capv) xs.length css.flatten rfl ((GrowOwn.stay (MarkOwn_stays n) hgr (w' := (w4.alloc (.cells #[.string kt, .string kx, .slice b2 l2 c2, .slice b3 l3 c3] 27))) (by simp; omega) (fun b q1 q2 => by rw [Below.heap_alloc _ _ _ (by omega), hg4'.out.block b q2 (fun e => by injection e with e; omega)])).row) ⟨w4.heap.size, 0, none⟩ 1 1 [.string kt, .string kx, .slice b2 l2 c2, .slice b3 l3 c3] rfl rfl (by intro i u hu; match i, hu with | 0, hu => (simp at hu; subst hu; simp [Addr.add]) | 1, hu => (simp at hu; subst hu; simp [Addr.add]) | 2, hu => (simp at hu; subst hu; simp [Addr.add]) | 3, hu => (simp at hu; subst hu; simp [Addr.add]) | i + 4, hu => simp at hu) (by intro u hu; simp at hu; rcases hu with rfl | rfl | rfl | rfl <;> rfl) (by omega) (by have := hxl.out; unfold maxLen; omega) (by have := hxl.out; omega) (by simp; omega) _ rfl ?_
                  intro g3 capg w5 hown5 hgrow5 hat5 hlt5
                  have bT5 : Hid (Box w5 (w1.heap.size) [.string tag, .string ⟨#[]⟩, va, .slice av xs.length capv] 27) := (hgrow5.block (w1.heap.size) (by simp; omega) (by intro e; have := hvb _ e.symm; omega)).trans (bT4.out.alloc _)
                  go_simp
                  refine hK.out _ _ trivial (fun hHeld => ?_)
                  clear hK K
                  refine tq (i := 8) (d := 69) ?_
                  simp only [sz, ss]
                  refine wpAnyH_ready (rs := [9]) (by kernel_rfl) (by simp) ?_
                  refine AllReadyH.cons rfl (fun K hK => ?_) AllReadyH.nil
                  have cT5 := bT5.out.cell 3 rfl
                  have fT5 := bT5.out.unfrozen 3
                  go_simp
                  refine hK.out _ _ trivial (fun hHeld => ?_)
                  clear hK K
                  refine wpAnyH_done (by kernel_rfl) ?_ _
                  have hst4 : Hid (KdSt n w g a nn cap w1.heap.size base tag va ats _ _ _) := KdSt.step hst2.out hgr hg4'.out hr4'.out hok'.out hndk'.out hlok'.out rfl rfl hown5 hgrow5 hat5
                  go_wp2_with fail
                  go_roundw
                  case rel => exact ⟨i - 1, _, _, xs ++ [_], by omega, by omega, by go_num, rfl, by show _ ≤ _; have := hxl.out; simp; omega, hst4⟩
                  case measure => simp [intOf]; omega
                · go_simp
                  refine hK.out _ _ trivial (fun hHeld => ?_)
                  clear hK K
                  refine wpAnyH_ready (rs := [1]) (by kernel_rfl) (by simp) ?_
                  refine AllReadyH.cons rfl (fun K hK => ?_) AllReadyH.nil
                  have cT : (w4.alloc (.cells #[.string kt, .string kx, .slice b2 l2 c2, .slice b3 l3 c3] 27)).cell? ⟨w1.heap.size, 3, none⟩ = some (.slice av xs.length capv) := (bT4.out.alloc _).cell 3 rfl
                  go_simp
                  clear cT
                  refine hK.out _ _ trivial (fun hHeld => ?_)
                  clear hK K
                  refine wpAnyH_ready (rs := [7]) (by kernel_rfl) (by simp) ?_
                  refine AllReadyH.cons rfl (fun K hK => ?_) AllReadyH.nil
                  refine step_append_lies (w4.alloc (.cells #[.string kt, .string kx, .slice b2 l2 c2, .slice b3 l3 c3] 27)) rfl _ _ 25 rfl _ 27 iM _ 4 80 Tryd.underlying25 hiM.out heM.out.1 heM.out.2.2 heM.out.2.1 rfl (by decide) (.slice av xs.length capv) xs.length css.flatten rfl ((GrowOwn.stay (MarkOwn_stays n) hgr (w' := (w4.alloc (.cells #[.string kt, .string kx, .slice b2 l2 c2, .slice b3 l3 c3] 27))) (by simp; omega) (fun b q1 q2 => by rw [Below.heap_alloc _ _ _ (by omega), hg4'.out.block b q2 (fun e => by injection e with e; omega)])).row) ⟨w4.heap.size, 0, none⟩ 1 1 [.string kt, .string kx, .slice b2 l2 c2, .slice b3 l3 c3] rfl rfl (by intro i u hu; match i, hu with | 0, hu => (simp at hu; subst hu; simp [Addr.add]) | 1, hu => (simp at hu; subst hu; simp [Addr.add]) | 2, hu => (simp at hu; subst hu; simp [Addr.add]) | 3, hu => (simp at hu; subst hu; simp [Addr.add]) | i + 4, hu => simp at hu) (by intro u hu; simp at hu; rcases hu with rfl | rfl | rfl | rfl <;> rfl) (by omega) (by have := hxl.out; unfold maxLen; omega) (by have := hxl.out; omega) (by simp; omega) _ rfl ?_
                  intro g3 capg w5 hown5 hgrow5 hat5 hlt5
                  have bT5 : Hid (Box w5 (w1.heap.size) [.string tag, .string ⟨#[]⟩, va, .slice av xs.length capv] 27) := (hgrow5.block (w1.heap.size) (by simp; omega) (by intro e; have := hvb _ e.symm; omega)).trans (bT4.out.alloc _)
                  go_simp
                  refine hK.out _ _ trivial (fun hHeld => ?_)
                  clear hK K
                  refine tq (i := 8) (d := 69) ?_
                  simp only [sz, ss]
                  refine wpAnyH_ready (rs := [9]) (by kernel_rfl) (by simp) ?_
                  refine AllReadyH.cons rfl (fun K hK => ?_) AllReadyH.nil
                  have cT5 := bT5.out.cell 3 rfl
                  have fT5 := bT5.out.unfrozen 3
                  go_simp
                  refine hK.out _ _ trivial (fun hHeld => ?_)
                  clear hK K
                  refine wpAnyH_done (by kernel_rfl) ?_ _
                  have hst4 : Hid (KdSt n w g a nn cap w1.heap.size base tag va ats _ _ _) := KdSt.step hst2.out hgr hg4'.out hr4'.out hok'.out hndk'.out hlok'.out rfl rfl hown5 hgrow5 hat5
                  go_wp2_with fail
                  go_roundw
                  case rel => exact ⟨i - 1, _, _, xs ++ [_], by omega, by omega, by go_num, rfl, by show _ ≤ _; have := hxl.out; simp; omega, hst4⟩
                  case measure => simp [intOf]; omega
          · go_wp2_with fail
            refine (once_any hrdr.out 60 (by omega) (by omega)).mono ?_
            rintro e w8 ⟨v, rfl, hr8, hg8⟩
            have hk8 : Hid (KdSt n w g a nn cap w1.heap.size base tag va ats vk xs w8) := KdSt.grown hst.out hg8 hr8
            clear hr8 hg8
            obtain ⟨⟨bss, css, hgr⟩, bT8, ⟨f2, hf2, _⟩, br8, _, _, hbs, hgw, hwT, hTb⟩ := id hk8.out
            obtain ⟨av, capv, rfl⟩ := hgr.form
            obtain ⟨aw, capw, rfl⟩ := hf2.form
            have bT8' : Hid (Box w8 w1.heap.size [.string tag, .string ⟨#[]⟩, .slice aw ats.length capw, .slice av xs.length capv] 27) := bT8
            have r0 := br8.cell 0 rfl
            have r1 := br8.cell 1 rfl
            have r2 := br8.cell 2 rfl
            have r3 := br8.cell 3 rfl
            have fR := br8.unfrozen
            have htm : Hid (tag.size ≤ maxLen) := by show _ ≤ _; have := hsz.out; unfold maxLen; omega
            cases v
            · have c0 := bT8'.out.cell 0 rfl
              have c1 := bT8'.out.cell 1 rfl
              have c2 := bT8'.out.cell 2 rfl
              have c3 := bT8'.out.cell 3 rfl
              have hne : ¬ w1.heap.size = w.heap.size := by omega
              clear bT8 br8 hgr hf2
              go_wp2_with fail
              obtain ⟨x, fs, q1, q2, q3, q4, q5⟩ := KdSt.done (w' := putCells w8 w.heap.size 0 [.string tag, .string ⟨#[]⟩, .slice aw ats.length capw, .slice av xs.length capv]) (txt := ⟨#[]⟩) hk8.out htm.out (Nat.zero_le _) (fun b _ h2 => putCells_other _ _ _ _ _ h2) (by rw [putCells_size]; exact Nat.le_refl _) ⟨rfl, rfl, rfl⟩
              exact bodyPost_ret (v := .agg (List.toArray [.string tag, .string ⟨#[]⟩, .slice aw ats.length capw, .slice av xs.length capv])) (by simp [results, Tryd.results33, go_sem, r0, r1, r2, r3]) rfl ⟨_, x, fs, rfl, q1, q2, q3, q4, q5⟩
            · have c1 := bT8'.out.cell 1 rfl
              have fT := bT8'.out.unfrozen 1
              have bT9 : Hid (Box (w8.setCell ⟨w1.heap.size, 1, none⟩ (.string ⟨#[120]⟩)) w1.heap.size [.string tag, .string ⟨#[120]⟩, .slice aw ats.length capw, .slice av xs.length capv] 27) := Box.set (i := 1) bT8'.out _
              have br9 : Hid (Box (w8.setCell ⟨w1.heap.size, 1, none⟩ (.string ⟨#[120]⟩)) w.heap.size resC 27) := Box.other br8 (by omega) _
              have d0 := bT9.out.cell 0 rfl
              have d1 := bT9.out.cell 1 rfl
              have d2 := bT9.out.cell 2 rfl
              have d3 := bT9.out.cell 3 rfl
              have s0 := br9.out.cell 0 rfl
              have s1 := br9.out.cell 1 rfl
              have s2 := br9.out.cell 2 rfl
              have s3 := br9.out.cell 3 rfl
              have fS := br9.out.unfrozen
              have hne : ¬ w1.heap.size = w.heap.size := by omega
              clear bT8 br8 hgr hf2
              go_wp2_with fail
              obtain ⟨x, fs, q1, q2, q3, q4, q5⟩ := KdSt.done (w' := putCells (w8.setCell ⟨w1.heap.size, 1, none⟩ (.string ⟨#[120]⟩)) w.heap.size 0 [.string tag, .string ⟨#[120]⟩, .slice aw ats.length capw, .slice av xs.length capv]) (txt := ⟨#[120]⟩) hk8.out htm.out (by show 1 ≤ maxLen; unfold maxLen; omega) (fun b h1 h2 => (putCells_other _ _ _ _ _ h2).trans (set_other h1 _)) (by rw [putCells_size, set_size]; exact Nat.le_refl _) ⟨rfl, rfl, rfl⟩
              exact bodyPost_ret (v := .agg (List.toArray [.string tag, .string ⟨#[120]⟩, .slice aw ats.length capw, .slice av xs.length capv])) (by simp [results, Tryd.results33, go_sem, s0, s1, s2, s3]) rfl ⟨_, x, fs, rfl, q1, q2, q3, q4, q5⟩
        · go_wp2_with fail
          refine (once_any hrdr.out 60 (by omega) (by omega)).mono ?_
          rintro e w8 ⟨v, rfl, hr8, hg8⟩
          have hk8 : Hid (KdSt n w g a nn cap w1.heap.size base tag va ats vk xs w8) := KdSt.grown hst.out hg8 hr8
          clear hr8 hg8
          obtain ⟨⟨bss, css, hgr⟩, bT8, ⟨f2, hf2, _⟩, br8, _, _, hbs, hgw, hwT, hTb⟩ := id hk8.out
          obtain ⟨av, capv, rfl⟩ := hgr.form
          obtain ⟨aw, capw, rfl⟩ := hf2.form
          have bT8' : Hid (Box w8 w1.heap.size [.string tag, .string ⟨#[]⟩, .slice aw ats.length capw, .slice av xs.length capv] 27) := bT8
          have r0 := br8.cell 0 rfl
          have r1 := br8.cell 1 rfl
          have r2 := br8.cell 2 rfl
          have r3 := br8.cell 3 rfl
          have fR := br8.unfrozen
          have htm : Hid (tag.size ≤ maxLen) := by show _ ≤ _; have := hsz.out; unfold maxLen; omega
          cases v
          · have c0 := bT8'.out.cell 0 rfl
            have c1 := bT8'.out.cell 1 rfl
            have c2 := bT8'.out.cell 2 rfl
            have c3 := bT8'.out.cell 3 rfl
            have hne : ¬ w1.heap.size = w.heap.size := by omega
            clear bT8 br8 hgr hf2
            go_wp2_with fail
            obtain ⟨x, fs, q1, q2, q3, q4, q5⟩ := KdSt.done (w' := putCells w8 w.heap.size 0 [.string tag, .string ⟨#[]⟩, .slice aw ats.length capw, .slice av xs.length capv]) (txt := ⟨#[]⟩) hk8.out htm.out (Nat.zero_le _) (fun b _ h2 => putCells_other _ _ _ _ _ h2) (by rw [putCells_size]; exact Nat.le_refl _) ⟨rfl, rfl, rfl⟩
            exact bodyPost_ret (v := .agg (List.toArray [.string tag, .string ⟨#[]⟩, .slice aw ats.length capw, .slice av xs.length capv])) (by simp [results, Tryd.results33, go_sem, r0, r1, r2, r3]) rfl ⟨_, x, fs, rfl, q1, q2, q3, q4, q5⟩
          · have c1 := bT8'.out.cell 1 rfl
            have fT := bT8'.out.unfrozen 1
            have bT9 : Hid (Box (w8.setCell ⟨w1.heap.size, 1, none⟩ (.string ⟨#[120]⟩)) w1.heap.size [.string tag, .string ⟨#[120]⟩, .slice aw ats.length capw, .slice av xs.length capv] 27) := Box.set (i := 1) bT8'.out _
            have br9 : Hid (Box (w8.setCell ⟨w1.heap.size, 1, none⟩ (.string ⟨#[120]⟩)) w.heap.size resC 27) := Box.other br8 (by omega) _
            have d0 := bT9.out.cell 0 rfl
            have d1 := bT9.out.cell 1 rfl
            have d2 := bT9.out.cell 2 rfl
            have d3 := bT9.out.cell 3 rfl
            have s0 := br9.out.cell 0 rfl
            have s1 := br9.out.cell 1 rfl
            have s2 := br9.out.cell 2 rfl
            have s3 := br9.out.cell 3 rfl
            have fS := br9.out.unfrozen
            have hne : ¬ w1.heap.size = w.heap.size := by omega
            clear bT8 br8 hgr hf2
            go_wp2_with fail
            obtain ⟨x, fs, q1, q2, q3, q4, q5⟩ := KdSt.done (w' := putCells (w8.setCell ⟨w1.heap.size, 1, none⟩ (.string ⟨#[120]⟩)) w.heap.size 0 [.string tag, .string ⟨#[120]⟩, .slice aw ats.length capw, .slice av xs.length capv]) (txt := ⟨#[120]⟩) hk8.out htm.out (by show 1 ≤ maxLen; unfold maxLen; omega) (fun b h1 h2 => (putCells_other _ _ _ _ _ h2).trans (set_other h1 _)) (by rw [putCells_size, set_size]; exact Nat.le_refl _) ⟨rfl, rfl, rfl⟩
            exact bodyPost_ret (v := .agg (List.toArray [.string tag, .string ⟨#[120]⟩, .slice aw ats.length capw, .slice av xs.length capv])) (by simp [results, Tryd.results33, go_sem, s0, s1, s2, s3]) rfl ⟨_, x, fs, rfl, q1, q2, q3, q4, q5⟩
theorem drM_all : ∀ n, DrM n := by
  intro n
  induction n with
  | zero => intro h; omega
  | succ n ih => exact drM_of n ih
end Go.Proofs.YtlcddndpfhdakaaDoor
namespace Go.Proofs.YtlcddndpfhdakaaDoor
open Go.RowKit
set_option maxHeartbeats 1000000 in
theorem drawMarkOk_any {w : World} {a : Option Addr} {n cap : Nat} (h : CodeAt w a n) :
    Calls Tryd.prog 25 #[.slice a n cap] w fun e w' => (∃ (cs : List Value) (x : MarkD), e = .returned (.agg cs.toArray) ∧ MarkAt 4 w' (w.heap.size + 1) cs x) ∧ Below w.heap.size w w' := by
  have h' : Hid (CodeAt w a n) := h
  clear h
  go_enter Tryd.func25, Tryd.ntmps25
  go_wp2_with fail
  have hbR : Hid (Below w.heap.size w (w.alloc (.cells #[.string ⟨#[]⟩, .string ⟨#[]⟩, .slice none 0 0, .slice none 0 0] 27))) := (Below.refl _ _).alloc (Nat.le_refl _) _
  have bR : Hid (Box (w.alloc (.cells #[.string ⟨#[]⟩, .string ⟨#[]⟩, .slice none 0 0, .slice none 0 0] 27)) w.heap.size resC 27) := Box.new w _ _
  refine (open_any (CodeAt.below h'.out hbR.out)).mono ?_
  rintro e w1 ⟨g, rfl, hg, hr1, hb1⟩
  have hr1' : Hid (RdAt w1 g a n cap) := hr1
  have hg' : w.heap.size + 1 ≤ g := by simpa using hg
  have hB1 : Hid (Below w.heap.size w w1) := hbR.out.trans (hb1.mono hbR.out.size)
  have bR1 : Hid (Box w1 w.heap.size resC 27) := bR.out.below hb1 bR.out.lt
  have hlt1 := hr1.lt
  clear hr1 hb1 hg
  go_wp2_with fail
  refine (drM_all 4 (by omega) (by omega) w1 g a n cap 1 hr1'.out (by omega)).mono ?_
  rintro e w2 ⟨cs, x, fs, rfl, hok, hnd, hlo, hr2, hg2⟩
  have hok' : Hid (MarkOwn 4 w2 cs x fs) := hok
  have hlo' : Hid (∀ b ∈ fs, w1.heap.size ≤ b) := hlo
  have hB2 : Hid (Below w.heap.size w w2) := below_grown hB1.out (by omega) hg2
  have bR2 : Hid (Box w2 w.heap.size resC 27) := box_other bR1.out (by omega) hg2
  obtain ⟨q2, q3, f2, f3, e, s2, s3, _⟩ := hok
  obtain ⟨x1, x2, x3⟩ := s2.form
  obtain ⟨y1, y2, y3⟩ := s3.form
  subst x3 y3 e
  clear hr2 hg2 hnd hlo s2 s3
  have r0 := bR2.out.cell 0 rfl
  have r1 := bR2.out.cell 1 rfl
  have r2 := bR2.out.cell 2 rfl
  have r3 := bR2.out.cell 3 rfl
  have fR := bR2.out.unfrozen
  go_wp2_with fail
  refine bodyPost_ret (v := .agg (List.toArray [.string x.vTag, .string x.vText, .slice x1 x.vAttrs.length x2, .slice y1 x.vKids.length y2])) (by simp [results, Tryd.results25, go_sem, r0, r1, r2, r3]) rfl ⟨⟨_, x, rfl, ?_⟩, ?_⟩
  · exact MarkOwn_at 4 _ _ _ _ (MarkOwn_stays 4 w2 (putCells w2 w.heap.size 0 [.string x.vTag, .string x.vText, .slice x1 x.vAttrs.length x2, .slice y1 x.vKids.length y2]) _ _ _ (fun b hb => putCells_other _ _ _ _ _ (by have := hlo'.out b hb; omega)) hok'.out) (fun b hb => by have := hlo'.out b hb; omega)
  · exact putCells_below [.string x.vTag, .string x.vText, .slice x1 x.vAttrs.length x2, .slice y1 x.vKids.length y2] _ _ _ w.heap.size 0 (Nat.le_refl _) hB2.out
set_option maxHeartbeats 1000000 in
theorem drawMarkText_any {w : World} {a : Option Addr} {n cap : Nat} (h : CodeAt w a n) :
    Calls Tryd.prog 7 #[.slice a n cap] w fun e w' => (∃ (cs : List Value) (x : MarkD), e = .returned (.agg cs.toArray) ∧ MarkAt 4 w' (w.heap.size + 1) cs x) ∧ Below w.heap.size w w' := by
  have h' : Hid (CodeAt w a n) := h
  clear h
  go_enter Tryd.func7, Tryd.ntmps7
  go_wp2_with fail
  have hbR : Hid (Below w.heap.size w (w.alloc (.cells #[.string ⟨#[]⟩, .string ⟨#[]⟩, .slice none 0 0, .slice none 0 0] 27))) := (Below.refl _ _).alloc (Nat.le_refl _) _
  have bR : Hid (Box (w.alloc (.cells #[.string ⟨#[]⟩, .string ⟨#[]⟩, .slice none 0 0, .slice none 0 0] 27)) w.heap.size resC 27) := Box.new w _ _
  refine (drawMarkOk_any (CodeAt.below h'.out hbR.out)).mono ?_
  rintro e w2 ⟨⟨cs, x, rfl, hok⟩, hb2⟩
  have hok' : Hid (MarkAt 4 w2 (w.heap.size + 1 + 1) cs x) := by simpa [Hid] using hok
  have hB2 : Hid (Below w.heap.size w w2) := hbR.out.trans (hb2.mono hbR.out.size)
  have bR2 : Hid (Box w2 w.heap.size resC 27) := bR.out.below hb2 bR.out.lt
  obtain ⟨q2, q3, e, s2, s3, _⟩ := MarkAt.opened hok
  obtain ⟨x1, x2, x3⟩ := s2.form
  obtain ⟨y1, y2, y3⟩ := s3.form
  subst x3 y3 e
  clear hb2 hok s2 s3
  have r0 := bR2.out.cell 0 rfl
  have r1 := bR2.out.cell 1 rfl
  have r2 := bR2.out.cell 2 rfl
  have r3 := bR2.out.cell 3 rfl
  have fR := bR2.out.unfrozen
  go_wp2_with fail
  refine bodyPost_ret (v := .agg (List.toArray [.string x.vTag, .string x.vText, .slice x1 x.vAttrs.length x2, .slice y1 x.vKids.length y2])) (by simp [results, Tryd.results7, go_sem, r0, r1, r2, r3]) rfl ⟨⟨_, x, rfl, ?_⟩, ?_⟩
  · exact MarkAt_stays 4 _ _ _ _ _ _ (.lower (by omega)) (MarkAt_stays 4 w2 (putCells w2 w.heap.size 0 [.string x.vTag, .string x.vText, .slice x1 x.vAttrs.length x2, .slice y1 x.vKids.length y2]) _ _ _ _ (kept_put (by omega)) hok'.out)
  · exact putCells_below [.string x.vTag, .string x.vText, .slice x1 x.vAttrs.length x2, .slice y1 x.vKids.length y2] _ _ _ w.heap.size 0 (Nat.le_refl _) hB2.out
set_option maxHeartbeats 1000000 in
theorem drawBare_any {w : World} {a : Option Addr} {n cap : Nat} (h : CodeAt w a n) :
    Calls Tryd.prog 15 #[.slice a n cap] w fun e w' => (∃ (cs : List Value) (x : MarkD), e = .returned (.agg cs.toArray) ∧ MarkAt 4 w' (w.heap.size + 1) cs x) ∧ Below w.heap.size w w' := by
  have h' : Hid (CodeAt w a n) := h
  clear h
  go_enter Tryd.func15, Tryd.ntmps15
  go_wp2_with fail
  have hbR : Hid (Below w.heap.size w (w.alloc (.cells #[.string ⟨#[]⟩, .string ⟨#[]⟩, .slice none 0 0, .slice none 0 0] 27))) := (Below.refl _ _).alloc (Nat.le_refl _) _
  have bR : Hid (Box (w.alloc (.cells #[.string ⟨#[]⟩, .string ⟨#[]⟩, .slice none 0 0, .slice none 0 0] 27)) w.heap.size resC 27) := Box.new w _ _
  refine (drawMarkOk_any (CodeAt.below h'.out hbR.out)).mono ?_
  rintro e w2 ⟨⟨cs, x, rfl, hok⟩, hb2⟩
  have hok' : Hid (MarkAt 4 w2 (w.heap.size + 1 + 1) cs x) := by simpa [Hid] using hok
  have hB2 : Hid (Below w.heap.size w w2) := hbR.out.trans (hb2.mono hbR.out.size)
  have bR2 : Hid (Box w2 w.heap.size resC 27) := bR.out.below hb2 bR.out.lt
  obtain ⟨q2, q3, e, s2, s3, _⟩ := MarkAt.opened hok
  obtain ⟨x1, x2, x3⟩ := s2.form
  obtain ⟨y1, y2, y3⟩ := s3.form
  subst x3 y3 e
  clear hb2 hok s2 s3
  have r0 := bR2.out.cell 0 rfl
  have r1 := bR2.out.cell 1 rfl
  have r2 := bR2.out.cell 2 rfl
  have r3 := bR2.out.cell 3 rfl
  have fR := bR2.out.unfrozen
  go_wp2_with fail
  refine bodyPost_ret (v := .agg (List.toArray [.string x.vTag, .string x.vText, .slice x1 x.vAttrs.length x2, .slice y1 x.vKids.length y2])) (by simp [results, Tryd.results15, go_sem, r0, r1, r2, r3]) rfl ⟨⟨_, x, rfl, ?_⟩, ?_⟩
  · exact MarkAt_stays 4 _ _ _ _ _ _ (.lower (by omega)) (MarkAt_stays 4 w2 (putCells w2 w.heap.size 0 [.string x.vTag, .string x.vText, .slice x1 x.vAttrs.length x2, .slice y1 x.vKids.length y2]) _ _ _ _ (kept_put (by omega)) hok'.out)
  · exact putCells_below [.string x.vTag, .string x.vText, .slice x1 x.vAttrs.length x2, .slice y1 x.vKids.length y2] _ _ _ w.heap.size 0 (Nat.le_refl _) hB2.out
end Go.Proofs.YtlcddndpfhdakaaDoor
