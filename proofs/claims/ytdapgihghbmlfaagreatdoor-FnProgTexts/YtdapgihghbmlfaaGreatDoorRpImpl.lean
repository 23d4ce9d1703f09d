/- progFrom of the program: walked. -/
import Derived.Test.YtdapgihghbmlfaaGreatDoorRpInstr
import Derived.Test.YtdapgihghbmlfaaGreatDoorOwnRecs
import Derived.Test.YtdapgihghbmlfaaGreatDoorGrowK
namespace Go.Proofs.YtdapgihghbmlfaaGreatDoor
open Go.RowKit Go.Deep
theorem infoSp : ((Tryz.prog.info? 34).map fun i => (i.zero, i.bytes, i.size)) = some (some (.agg #[.int .i64 0, .int .i64 0, .string ByteArray.empty]), 32, 3) := by kernel_rfl
/-- where a reader stands, in memory -/
def posT (g : Nat) (w : World) : Nat := match w.cell? ⟨g, 1, none⟩ with
  | some v => (intOf v).toNat
  | none => 0
theorem posT_at {w : World} {g : Nat} {s : ByteArray} {p k : Nat} (h : TrAt w g s p k) : posT g w = p := by
  have := h.cell 1 rfl
  simp [posT, this, intOf]
theorem instrOwn_of {w : World} {x : InstrD} (h : x.vName.size ≤ maxLen) (hk : InI x.vKind) (hn : InI x.vN) : InstrOwn w [.int .i64 x.vKind, .int .i64 x.vN, .string x.vName] x [] := ⟨rfl, hk, hn, h, rfl⟩
theorem rdInstr_ok {l r : List UInt8} {x : InstrD} (h : rdInstr l = some (x, r)) : x.vName.size ≤ maxLen ∧ InI x.vKind ∧ InI x.vN := by
  obtain ⟨_, _, h1, h2, h3, h4⟩ := rdInstr_sound h
  refine ⟨by unfold maxLen; omega, by unfold InI; omega, h2⟩
theorem rdMore_more {n : Nat} {xs : List InstrD} {l r : List UInt8} {x : InstrD} (hp : preP [59] l = true) (hp2 : preP [59, 32] l = true) (h : rdInstr (l.drop 2) = some (x, r)) : rdMoreP (n + 1) xs l = rdMoreP n (xs ++ [x]) r := by
  conv => lhs; unfold rdMoreP
  rw [if_pos hp, if_pos hp2, h]
theorem rdMore_none {n : Nat} {xs : List InstrD} {l : List UInt8} (hp : preP [59] l = true) (h : preP [59, 32] l = false ∨ rdInstr (l.drop 2) = none) : rdMoreP (n + 1) xs l = none := by
  unfold rdMoreP; rw [if_pos hp]
  rcases h with h | h
  · rw [h, if_neg (by simp)]
  · rw [h]; split <;> rfl
theorem rdMore_end {n : Nat} {xs : List InstrD} {l : List UInt8} (hp : preP [59] l = false) : rdMoreP (n + 1) xs l = some (xs, l) := by
  unfold rdMoreP; rw [hp, if_neg (by simp)]
theorem grown_below2 {a w w' : World} {g : Nat} {B : Nat} (h : a.grownBy w (some g)) (hb : Below B w w') (hB : a.heap.size ≤ B) : a.grownBy w' (some g) :=
  ⟨hb.os.trans h.os, hb.tape.trans h.tape, hb.output.trans h.output, Nat.le_trans h.size hb.size, fun b q1 q2 => (hb.block b (by omega)).trans (h.block b q1 q2)⟩
set_option maxRecDepth 100000 in
set_option maxHeartbeats 4000000 in
theorem progFrom_any {w : World} {g : Nat} {s : ByteArray} {p k : Nat} (h : TrAt w g s p k) (hp : p ≤ s.size) (hs : s.size ≤ 1048576) (hT : Tb w) (hg7 : 7 ≤ g) :
    Calls Tryz.prog 17 #[.pointer (some ⟨g, 0, none⟩)] w fun e w' =>
      (∃ (v : Value) (xs : List InstrD) (fs : List Nat) (p' : Nat), e = .returned v ∧ SeqOwn 3 InstrOwn w' v xs fs ∧ fs.Nodup ∧ (∀ b ∈ fs, w.heap.size ≤ b) ∧ TrAt w' g s p' k ∧ p' ≤ s.size ∧ rdProg (rest s p) = some (xs, rest s p') ∧ w.grownBy w' (some g)) ∨ (e = .panicked gaveUp ∧ w.grownBy w' (some g) ∧ rdProg (rest s p) = none) := by
  have hss : Hid (s.size ≤ 1048576) := hs
  have hgl : g < w.heap.size := h.lt
  have hT' : Hid (Tb w) := hT
  have hg7' : Hid (7 ≤ g) := hg7
  have h' : Hid (TrAt w g s p k) := h
  obtain ⟨iT, hiT0, heT0⟩ := Option.map_eq_some_iff.1 infoSp
  simp only [Prod.mk.injEq] at heT0
  have hiT : Hid (Tryz.prog.info? 34 = some iT) := hiT0
  have heT : Hid (iT.zero = some (.agg #[.int .i64 0, .int .i64 0, .string ByteArray.empty]) ∧ iT.bytes = 32 ∧ iT.size = 3) := heT0
  clear hiT0 heT0 h hs hT hg7
  go_enter Tryz.func17, Tryz.ntmps17
  go_wp2_with fail
  refine (instrFrom_any h'.out hp hss.out hT'.out hg7'.out).mono ?_
  intro e w9 hor
  rcases hor with ⟨x, p1, rfl, hrd, hp1, htr, hg9⟩ | ⟨rfl, hrd, hg9⟩
  rotate_left
  · have hg9' : Hid (w.grownBy w9 (some g)) := hg9
    have hrs : Hid (rdProg (rest s p) = none) := by show _ = _; unfold rdProg; rw [hrd]
    clear hg9 hrd
    go_wp2_with fail
    exact ⟨rfl, Or.inr ⟨rfl, hg9'.out, hrs.out⟩⟩
  have hxt := rdInstr_ok hrd
  have hbA : Below w9.heap.size w9 (w9.alloc (.cells #[.int .i64 x.vKind, .int .i64 x.vN, .string x.vName] 34)) := (Below.refl _ _).alloc (Nat.le_refl _) _
  have hz9 := hg9.size
  have hgr0 : Hid (GrowOwn 34 3 InstrOwn w.heap.size (w9.alloc (.cells #[.int .i64 x.vKind, .int .i64 x.vN, .string x.vName] 34)) (.slice (some ⟨w9.heap.size, 0, none⟩) 1 1) [x] [[]] [[.int .i64 x.vKind, .int .i64 x.vN, .string x.vName]]) := GrowOwn.one (Box.new w9 _ _) rfl hz9 (instrOwn_of hxt.1 hxt.2.1 hxt.2.2) List.nodup_nil (by simp)
  have htr0 : Hid (TrAt (w9.alloc (.cells #[.int .i64 x.vKind, .int .i64 x.vN, .string x.vName] 34)) g s p1 k) := htr.below hbA
  have hg0 : Hid (w.grownBy (w9.alloc (.cells #[.int .i64 x.vKind, .int .i64 x.vN, .string x.vName] 34)) (some g)) := hg9.trans (grown_of_below hbA _)
  have hlt : (rest s p1).length < (rest s p).length := (rdInstr_sound hrd).2.1
  have hrd0 : Hid (rdProg (rest s p) = rdMoreP ((rest s p).length + 1) [x] (rest s p1)) := by show _ = _; unfold rdProg; rw [hrd]
  have hf0 : Hid (s.size - p1 < (rest s p).length + 1) := by show _ < _; rw [rest_len] at hlt; omega
  generalize (rest s p).length + 1 = f0 at hrd0 hf0
  generalize hvk : (Value.slice (some ⟨w9.heap.size, 0, none⟩) 1 1) = vk0 at hgr0
  generalize hW : w9.alloc (.cells #[.int .i64 x.vKind, .int .i64 x.vN, .string x.vName] 34) = w10 at *
  clear hrd htr hg9 hbA hlt hxt h'
  go_wp2_with fail
  clear hW
  go_loopw [3] (fun v wr => ∃ (q f : Nat) (xs : List InstrD), q ≤ s.size ∧ Hid (∃ bss css, GrowOwn 34 3 InstrOwn w.heap.size wr v xs bss css) ∧ Hid (TrAt wr g s q k) ∧ Hid (w.grownBy wr (some g)) ∧ Hid (rdProg (rest s p) = rdMoreP f xs (rest s q)) ∧ Hid (s.size - q < f) ∧ Hid (xs.length ≤ q + 1)) (fun _ wr => s.size - posT g wr)
  case atStart => exact ⟨p1, f0, [x], hp1, ⟨_, _, by first | exact hgr0.out | (rw [hvk]; exact hgr0.out)⟩, htr0, hg0, hrd0, hf0, by show (1 : Nat) ≤ _; omega⟩
  case round =>
    obtain ⟨q, f, xs, hq, hgrE, htr, hgw, hR, hf, hxl⟩ := hrel
    obtain ⟨f, rfl⟩ : ∃ f', f = f' + 1 := ⟨f - 1, by have := hf.out; omega⟩
    obtain ⟨bss, css, hgr⟩ := hgrE.out
    obtain ⟨av, capv, rfl⟩ := hgr.form
    have hpos : Hid (posT g wr = q) := posT_at htr.out
    clear hgr0 htr0 hg0 hrd0 hf0 hgrE
    go_wp2_with fail
    refine (sees_any htr.out hq).mono ?_
    rintro e w1 ⟨rfl, n1, rfl⟩
    have htr1 : Hid (TrAt (wr.drewN n1) g s q k) := htr.out
    have hgw1 : Hid (w.grownBy (wr.drewN n1) (some g)) := hgw.out.trans grown_drewN
    have hgr1 : Hid (GrowOwn 34 3 InstrOwn w.heap.size (wr.drewN n1) (.slice av xs.length capv) xs bss css) := hgr.stay InstrOwn_stays (Nat.le_refl _) (fun _ _ _ => rfl)
    clear htr hgw hgr
    cases hpre : preP [59] (rest s q)
    · have hR1 : Hid (rdProg (rest s p) = some (xs, rest s q)) := by show _ = _; rw [hR.out]; exact rdMore_end hpre
      go_wp2_with fail
      go_ret
      obtain ⟨fs, o1, o2⟩ := hgr1.out.done
      exact Or.inl ⟨_, xs, fs, q, rfl, o1, o1.nodup, o2, htr1.out, hq, hR1.out, hgw1.out⟩
    · go_wp2_with fail
      have hgo1 : Hid (w.grownBy (wr.drewN n1) (some g)) := hgw1.out
      cases hpre2 : preP [59, 32] (rest s q)
      · refine (take_no htr1.out hq hpre2).mono ?_
        rintro e w9 ⟨rfl, hg9⟩
        have hg9' : Hid (w.grownBy w9 (some g)) := hgo1.out.trans hg9
        have hrs : Hid (rdProg (rest s p) = none) := by show _ = _; rw [hR.out]; exact rdMore_none hpre (Or.inl hpre2)
        clear hg9
        go_wp2_with fail
        exact ⟨rfl, Or.inr ⟨rfl, hg9'.out, hrs.out⟩⟩
      refine (take_yes htr1.out hq hss.out hpre2).mono ?_
      rintro e w3 ⟨rfl, htr3, hq3, hg3⟩
      have htr3' : Hid (TrAt w3 g s (q + 2) k) := htr3
      have hq3' : Hid (q + 2 ≤ s.size) := hq3
      have hgw3 : Hid (w.grownBy w3 (some g)) := hgw1.out.trans hg3
      have hT3 : Hid (Tb w3) := hT'.out.grown hgw3.out hg7'.out
      have hgr : Hid (GrowOwn 34 3 InstrOwn w.heap.size w3 (.slice av xs.length capv) xs bss css) := hgr1.out.stay InstrOwn_stays hg3.size (fun b h1 h2 => hg3.block b h2 (fun e => by injection e; omega))
      clear htr3 hq3 hg3 hgr1 htr1 hgw1 hgo1
      go_wp2_with fail
      refine (instrFrom_any htr3'.out hq3'.out hss.out hT3.out hg7'.out).mono ?_
      intro e w5 hor
      rcases hor with ⟨x, p1, rfl, hrd, hp1, htr5, hg5⟩ | ⟨rfl, hrd, hg5⟩
      rotate_left
      · have hg9' : Hid (w.grownBy w5 (some g)) := hgw3.out.trans hg5
        have hrs : Hid (rdProg (rest s p) = none) := by show _ = _; rw [hR.out]; exact rdMore_none hpre (Or.inr (by rw [drop_rest]; exact hrd))
        clear hg5 hrd
        go_wp2_with fail
        exact ⟨rfl, Or.inr ⟨rfl, hg9'.out, hrs.out⟩⟩
      have hR5 : Hid (rdProg (rest s p) = rdMoreP f (xs ++ [x]) (rest s p1)) := by show _ = _; rw [hR.out]; exact rdMore_more hpre hpre2 (by rw [drop_rest]; exact hrd)
      have hlt5 : q < p1 := by have := (rdInstr_sound hrd).2.1; rw [rest_len, rest_len] at this; omega
      have hox : Hid (InstrOwn (w5.alloc (.cells #[.int .i64 x.vKind, .int .i64 x.vN, .string x.vName] 34)) [.int .i64 x.vKind, .int .i64 x.vN, .string x.vName] x []) := instrOwn_of (rdInstr_ok hrd).1 (rdInstr_ok hrd).2.1 (rdInstr_ok hrd).2.2
      have htr5' : Hid (TrAt w5 g s p1 k) := htr5
      have hgw5 : Hid (w.grownBy w5 (some g)) := hgw3.out.trans hg5
      have hz5 := hg5.size
      have hz3 := hgw3.out.size
      have hbs : Hid (w.heap.size ≤ w3.heap.size) := hz3
      have hs7 : Hid (w3.heap.size ≤ (w5.alloc (.cells #[.int .i64 x.vKind, .int .i64 x.vN, .string x.vName] 34)).heap.size) := by show _ ≤ _; simp; omega
      have hk7 : Hid (∀ b, w.heap.size ≤ b → b < w3.heap.size → (w5.alloc (.cells #[.int .i64 x.vKind, .int .i64 x.vN, .string x.vName] 34)).heap[b]? = w3.heap[b]?) := fun b h1 h2 => by
        rw [Below.heap_alloc _ _ _ (by omega), hg5.block b h2 (fun e => by injection e; omega)]
      clear hrd htr5 hg5
      go_wp2_with (at_builtin; refine wpList_append_growK InstrOwn_stays rfl _ _ 24 rfl w.heap.size iT _ 32 Tryz.underlying24 hiT.out heT.out.1 heT.out.2.2 heT.out.2.1 rfl (by decide) (y := x) (fs := []) (cs := [.int .i64 x.vKind, .int .i64 x.vN, .string x.vName]) (v := .slice av xs.length capv) rfl hgr.out hs7.out hk7.out hbs.out _ _ rfl rfl (by intro i u hu; match i, hu with | 0, hu => (simp at hu; subst hu; simp [Addr.add]) | 1, hu => (simp at hu; subst hu; simp [Addr.add]) | 2, hu => (simp at hu; subst hu; simp [Addr.add]) | i + 3, hu => simp at hu) (by intro u hu; simp at hu; rcases hu with rfl | rfl | rfl <;> rfl) hox.out List.nodup_nil (by simp) (by simp) (by have := hxl.out; have := hss.out; unfold maxLen; omega) (by have := hxl.out; have := hss.out; omega) ?_; intro g3 capg w8 hgr8 hg8 hb8; have hgr8' : Hid (GrowOwn 34 3 InstrOwn w.heap.size w8 (.slice (some ⟨g3, 0, none⟩) (xs.length + 1) capg) (xs ++ [x]) _ _) := hgr8; have hb8' : Hid (Below w.heap.size (w5.alloc (.cells #[.int .i64 x.vKind, .int .i64 x.vN, .string x.vName] 34)) w8) := hb8; clear hgr8 hg8 hb8)
      have hbA : Below w5.heap.size w5 (w5.alloc (.cells #[.int .i64 x.vKind, .int .i64 x.vN, .string x.vName] 34)) := (Below.refl _ _).alloc (Nat.le_refl _) _
      have htr8 : Hid (TrAt w8 g s p1 k) := (hb8'.out.block g hgl).trans (htr5'.out.below hbA)
      have hgw8 : Hid (w.grownBy w8 (some g)) := grown_below2 (hgw5.out.trans (grown_of_below hbA _)) hb8'.out (Nat.le_refl _)
      go_roundw
      case rel => exact ⟨p1, f, xs ++ [x], hp1, ⟨_, _, hgr8'.out⟩, htr8, hgw8, hR5, by show _ < _; have := hf.out; omega, by show _ ≤ _; have := hxl.out; simp; omega⟩
      case measure => rw [hpos.out, posT_at htr8.out]; omega
end Go.Proofs.YtdapgihghbmlfaaGreatDoor
