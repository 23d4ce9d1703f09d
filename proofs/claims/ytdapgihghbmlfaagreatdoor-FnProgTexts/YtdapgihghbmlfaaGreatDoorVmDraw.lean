/- The draw of an instruction and of a program: whatever is drawn lies in memory as records. -/
import Derived.Test.YtdapgihghbmlfaaGreatDoorVmDepW
import Derived.Test.YtdapgihghbmlfaaGreatDoorDrawsNum
import Derived.Deep.DeepCutAuto
import Derived.Deep.CutBlock
namespace Go.Proofs.YtdapgihghbmlfaaGreatDoor
open Go.RowKit
theorem box_int {w : World} {g : Nat} {l : List Int} {T : TypeId} (h : Box w g (l.map fun n => .int .i64 n) T) (k : Nat) (hk : k < l.length) : w.cell? ⟨g, k, none⟩ = some (.int .i64 l[k]) :=
  Box.cell h k (by rw [List.getElem?_map, List.getElem?_eq_getElem hk]; rfl)
theorem box_tab {w : World} {g : Nat} {l : List Int} {T : TypeId} (h : Box w g (l.map fun n => .int .i64 n) T) (hl : ∀ x ∈ l, InI x) (k : Nat) (hk : k < l.length) : ∃ x, w.cell? ⟨g, k, none⟩ = some (.int .i64 x) ∧ InI x := ⟨_, box_int h k hk, hl _ (List.getElem_mem hk)⟩
theorem grown_new {w wx : World} {g gi i : Nat} (h : w.grownBy wx (some g)) (hi : w.heap.size ≤ gi) (v : Value) : w.grownBy (wx.setCell ⟨gi, i, none⟩ v) (some g) :=
  ⟨h.os, h.tape, h.output, by rw [set_size]; exact h.size, fun b hb hn => (set_other (by omega) v).trans (h.block b hb hn)⟩
theorem grown_alloc {w wx : World} {g : Nat} (h : w.grownBy wx (some g)) (o : Obj) : w.grownBy (wx.alloc o) (some g) := grown_on h (grown_of_below ((Below.refl _ _).alloc (Nat.le_refl _) o) _)
theorem inI_zero : InI 0 := ⟨by decide, by decide⟩
theorem inI_small {n : Int} (h1 : -100000 ≤ n) (h2 : n ≤ 100000) : InI n := ⟨by omega, by omega⟩
theorem rd_alloc {w : World} {g : Nat} {a : Option Addr} {n cap : Nat} (h : RdAt w g a n cap) (o : Obj) : RdAt (w.alloc o) g a n cap := h.below ((Below.refl _ _).alloc (Nat.le_refl _) o)
theorem rd_set {w : World} {g gi i : Nat} {a : Option Addr} {n cap : Nat} (h : RdAt w g a n cap) (hg : g < gi) (v : Value) : RdAt (w.setCell ⟨gi, i, none⟩ v) g a n cap := h.keep (fun b hb => set_other (by omega) v)
/-- the cells of an instruction -/
def inL (x : InstrD) : List Value := [.int .i64 x.vKind, .int .i64 x.vN, .string x.vName]
def InOk (x : InstrD) : Prop := InI x.vKind ∧ InI x.vN ∧ x.vName.size ≤ 100
/-- how things stand while an instruction is drawn -/
def IS (w : World) (g : Nat) (a : Option Addr) (n cap gr gi : Nat) (wx : World) : Prop := ∃ x, Box wx gi (inL x) 34 ∧ InOk x ∧ RdAt wx g a n cap ∧ w.grownBy wx (some g) ∧ Box wx gr [.int .i64 0, .int .i64 0, .string ⟨#[]⟩] 34
theorem is_set {w : World} {g : Nat} {a : Option Addr} {n cap gr gi : Nat} {wx : World} {x y : InstrD} {i : Nat} {v : Value} (hb : Box wx gi (inL x) 34) (hr : RdAt wx g a n cap) (hg : w.grownBy wx (some g)) (hz : Box wx gr [.int .i64 0, .int .i64 0, .string ⟨#[]⟩] 34) (hne : gr ≠ gi) (hgi : w.heap.size ≤ gi) (hgg : g < w.heap.size) (hy : (inL x).set i v = inL y) (hok : InOk y) : IS w g a n cap gr gi (wx.setCell ⟨gi, i, none⟩ v) :=
  ⟨y, by have := hb.set (i := i) v; rw [hy] at this; exact this, hok, rd_set hr (by omega) v, grown_new hg hgi v, hz.other hne v⟩
theorem wrap_i64 {n : Int} (h1 : -100000 ≤ n) (h2 : n ≤ 100000) : IntKind.i64.wrap n = n := by simp [IntKind.wrap, IntKind.signed, IntKind.bits]; omega
theorem dName_any {w : World} {g : Nat} {a : Option Addr} {n cap : Nat} (h : RdAt w g a n cap) :
    Calls Tryz.prog 62 #[.pointer (some ⟨g, 0, none⟩)] w fun e w' => ∃ s : ByteArray, e = .returned (.string s) ∧ s.size ≤ 100 ∧ RdAt w' g a n cap ∧ w.grownBy w' (some g) := by
  have hgw : g < w.heap.size := h.lt
  have hr1 : Hid (RdAt (w.alloc (.cells #[.string ⟨#[97]⟩, .string ⟨#[98]⟩, .string ⟨#[99]⟩, .string ⟨#[100]⟩] 9)) g a n cap) := rd_alloc h _
  have hg1 : Hid (w.grownBy (w.alloc (.cells #[.string ⟨#[97]⟩, .string ⟨#[98]⟩, .string ⟨#[99]⟩, .string ⟨#[100]⟩] 9)) (some g)) := grown_alloc (grown_refl _ _) _
  have bt1 : Hid (Box (w.alloc (.cells #[.string ⟨#[97]⟩, .string ⟨#[98]⟩, .string ⟨#[99]⟩, .string ⟨#[100]⟩] 9)) w.heap.size ([⟨#[97]⟩, ⟨#[98]⟩, ⟨#[99]⟩, ⟨#[100]⟩].map Value.string) 9) := Box.new w _ _
  clear h
  go_enter Tryz.func62, Tryz.ntmps62
  go_wp2_with fail
  refine (below_any hr1.out 4 (by omega) (by omega)).mono ?_
  rintro e w2 ⟨v, rfl, v0, v1, hr2, hg2⟩
  obtain ⟨m, rfl⟩ : ∃ m : Nat, v = (m : Int) := ⟨v.toNat, by omega⟩
  have zt := box_str (box_other bt1.out (by omega) hg2) m (by simp; omega)
  have hk : Hid ((([⟨#[97]⟩, ⟨#[98]⟩, ⟨#[99]⟩, ⟨#[100]⟩] : List ByteArray)[m]'(by simp; omega)).size ≤ 100) := mem_le (m := 100) (by decide) m (by simp; omega)
  generalize ([⟨#[97]⟩, ⟨#[98]⟩, ⟨#[99]⟩, ⟨#[100]⟩] : List ByteArray)[m]'(by simp; omega) = s at zt hk
  have hr2' : Hid (RdAt w2 g a n cap) := hr2
  have hg2' : Hid (w.grownBy w2 (some g)) := grown_on hg1.out hg2
  have hm4 : (m : Int) < 4 := v1
  clear hr1 hg1 bt1 hr2 hg2 v1
  go_wp2_with fail
  go_ret
  exact ⟨_, rfl, hk.out, hr2'.out, hg2'.out⟩
set_option maxRecDepth 100000 in
set_option maxHeartbeats 8000000 in
theorem instr_any {w : World} {g : Nat} {a : Option Addr} {n cap : Nat} (h : RdAt w g a n cap) (deep at' : Int) (hd1 : -1000 ≤ deep) (hd2 : deep ≤ 1000) (ha1 : 0 ≤ at') (ha2 : at' ≤ 1000) :
    Calls Tryz.prog 45 #[.pointer (some ⟨g, 0, none⟩), .int .i64 deep, .int .i64 at'] w fun e w' => (∃ x, e = .returned (.agg (inL x).toArray) ∧ InOk x) ∧ RdAt w' g a n cap ∧ w.grownBy w' (some g) := by
  have hgw : g < w.heap.size := h.lt
  have h0 : Hid (RdAt w g a n cap) := h
  clear h
  have hr1 : Hid (RdAt ((w.alloc (.cells #[.int .i64 0, .int .i64 0, .string ⟨#[]⟩] 34)).alloc (.cells #[.int .i64 1, .int .i64 2, .int .i64 3, .int .i64 7, .int .i64 1] 2)) g a n cap) := rd_alloc (rd_alloc h0.out _) _
  have hg1 : Hid (w.grownBy ((w.alloc (.cells #[.int .i64 0, .int .i64 0, .string ⟨#[]⟩] 34)).alloc (.cells #[.int .i64 1, .int .i64 2, .int .i64 3, .int .i64 7, .int .i64 1] 2)) (some g)) := grown_alloc (grown_alloc (grown_refl _ _) _) _
  have bz1 : Hid (Box ((w.alloc (.cells #[.int .i64 0, .int .i64 0, .string ⟨#[]⟩] 34)).alloc (.cells #[.int .i64 1, .int .i64 2, .int .i64 3, .int .i64 7, .int .i64 1] 2)) w.heap.size [.int .i64 0, .int .i64 0, .string ⟨#[]⟩] 34) := (Box.new w _ _).alloc _
  have bt1 : Hid (Box ((w.alloc (.cells #[.int .i64 0, .int .i64 0, .string ⟨#[]⟩] 34)).alloc (.cells #[.int .i64 1, .int .i64 2, .int .i64 3, .int .i64 7, .int .i64 1] 2)) (w.heap.size + 1) ([1, 2, 3, 7, 1].map fun n => .int .i64 n) 2) := box_new1 w _ _ _
  go_enter Tryz.func45, Tryz.ntmps45
  go_wp2_with fail
  refine (below_any hr1.out 5 (by omega) (by omega)).mono ?_
  rintro e w2 ⟨v, rfl, v0, v1, hr2, hg2⟩
  obtain ⟨m, rfl⟩ : ∃ m : Nat, v = (m : Int) := ⟨v.toNat, by omega⟩
  obtain ⟨k0, zt, hk0⟩ := box_tab (box_other bt1.out (by omega) hg2) (by simp [InI]) m (by simp; omega)
  have hm5 : (m : Int) < 5 := v1
  have hx0 : Hid (InI k0) := hk0
  clear hk0 v1
  have hr2' : Hid (RdAt w2 g a n cap) := hr2
  have hg2' : Hid (w.grownBy w2 (some g)) := grown_on hg1.out hg2
  have bz2 : Hid (Box w2 w.heap.size [.int .i64 0, .int .i64 0, .string ⟨#[]⟩] 34) := box_other bz1.out (by omega) hg2
  have hsz : w.heap.size + 2 ≤ w2.heap.size := by have := hg2.size; simp at this; omega
  clear hr1 hg1 bz1 bt1 hr2 hg2
  have hIS : Hid (IS w g a n cap w.heap.size w2.heap.size (w2.alloc (.cells #[.int .i64 k0, .int .i64 0, .string ⟨#[]⟩] 34))) := ⟨⟨k0, 0, ⟨#[]⟩⟩, Box.new w2 _ _, ⟨hx0.out, inI_zero, Nat.zero_le 100⟩, rd_alloc hr2'.out _, grown_alloc hg2'.out _, bz2.out.alloc _⟩
  go_upto_block 0 with fail
  generalize (w2.alloc (.cells #[.int .i64 k0, .int .i64 0, .string ⟨#[]⟩] 34)) = w3 at hIS ⊢
  have hgi : Hid (w.heap.size + 2 ≤ w2.heap.size) := hsz
  generalize w2.heap.size = gi at hIS hgi ⊢
  clear zt hm5 hx0 hr2' hg2' bz2 hsz v0
  go_cut [14] (fun _ wx => Hid (IS w g a n cap w.heap.size gi wx))
  case first =>
    obtain ⟨x1, bx1r, hok1r, hr1r, hg1r, bz1r⟩ := hIS.out
    have bx1 : Hid (Box w3 gi (inL x1) 34) := bx1r
    have hok1 : Hid (InOk x1) := hok1r
    have hr1 : Hid (RdAt w3 g a n cap) := hr1r
    have hg1 : Hid (w.grownBy w3 (some g)) := hg1r
    have bz1 : Hid (Box w3 w.heap.size [.int .i64 0, .int .i64 0, .string ⟨#[]⟩] 34) := bz1r
    clear bx1r hok1r hr1r hg1r bz1r
    by_cases h2 : 2 ≤ deep
    · skip
      go_wp2_with fail
      refine (once_any hr1.out 2 (by omega) (by omega)).mono ?_
      rintro e wo2 ⟨v2, rfl, hro2, hgo2⟩
      have bx3 : Hid (Box wo2 gi (inL x1) 34) := box_other bx1.out (by have := hgi.out; omega) hgo2
      have hr3 : Hid (RdAt wo2 g a n cap) := hro2
      have hg3 : Hid (w.grownBy wo2 (some g)) := grown_on hg1.out hgo2
      have bz3 : Hid (Box wo2 w.heap.size [.int .i64 0, .int .i64 0, .string ⟨#[]⟩] 34) := box_other bz1.out (by omega) hgo2
      have hok3 : Hid (InOk x1) := hok1
      clear hro2 hgo2 bx1 hr1 hg1 bz1
      rcases (show v2 = false ∨ v2 = true by cases v2 <;> simp) with rfl | rfl
      · skip
        go_wp2_with fail
        refine (once_any hr3.out 2 (by omega) (by omega)).mono ?_
        rintro e wo4 ⟨v4, rfl, hro4, hgo4⟩
        have bx5 : Hid (Box wo4 gi (inL x1) 34) := box_other bx3.out (by have := hgi.out; omega) hgo4
        have hr5 : Hid (RdAt wo4 g a n cap) := hro4
        have hg5 : Hid (w.grownBy wo4 (some g)) := grown_on hg3.out hgo4
        have bz5 : Hid (Box wo4 w.heap.size [.int .i64 0, .int .i64 0, .string ⟨#[]⟩] 34) := box_other bz3.out (by omega) hgo4
        have hok5 : Hid (InOk x1) := hok3
        clear hro4 hgo4 bx3 hr3 hg3 bz3
        rcases (show v4 = false ∨ v4 = true by cases v4 <;> simp) with rfl | rfl
        · skip
          go_wp2_with fail
          go_meet
          exact ⟨x1, bx5.out, hok5.out, hr5.out, hg5.out, bz5.out⟩
        · skip
          have bt6 : Hid (Box (wo4.alloc (.cells #[.int .i64 4, .int .i64 5, .int .i64 12, .int .i64 14, .int .i64 13, .int .i64 11] 2)) wo4.heap.size ([4, 5, 12, 14, 13, 11].map fun n => .int .i64 n) 2) := Box.new wo4 _ _
          have hrt6 : Hid (RdAt (wo4.alloc (.cells #[.int .i64 4, .int .i64 5, .int .i64 12, .int .i64 14, .int .i64 13, .int .i64 11] 2)) g a n cap) := rd_alloc hr5.out _
          have hgt6 : Hid (w.grownBy (wo4.alloc (.cells #[.int .i64 4, .int .i64 5, .int .i64 12, .int .i64 14, .int .i64 13, .int .i64 11] 2)) (some g)) := grown_alloc hg5.out _
          have bxt6 : Hid (Box (wo4.alloc (.cells #[.int .i64 4, .int .i64 5, .int .i64 12, .int .i64 14, .int .i64 13, .int .i64 11] 2)) gi (inL x1) 34) := bx5.out.alloc _
          have bzt6 : Hid (Box (wo4.alloc (.cells #[.int .i64 4, .int .i64 5, .int .i64 12, .int .i64 14, .int .i64 13, .int .i64 11] 2)) w.heap.size [.int .i64 0, .int .i64 0, .string ⟨#[]⟩] 34) := bz5.out.alloc _
          have hlt6 : g < wo4.heap.size := hr5.out.lt
          clear bx5 hr5 hg5 bz5
          go_wp2_with fail
          refine (below_any hrt6.out 6 (by omega) (by omega)).mono ?_
          rintro e wb6 ⟨vb6, rfl, vp6, vl6, hrb6, hgb6⟩
          obtain ⟨m6, rfl⟩ : ∃ m : Nat, vb6 = (m : Int) := ⟨vb6.toNat, by omega⟩
          obtain ⟨kk6, zt6, hk6r⟩ := box_tab (box_other bt6.out (by omega) hgb6) (by simp [InI]) m6 (by simp; omega)
          have hk6s : Hid (InI kk6) := hk6r
          clear hk6r
          have hml6 : (m6 : Int) < 6 := vl6
          have bx7 : Hid (Box wb6 gi (inL x1) 34) := box_other bxt6.out (by have := hgi.out; omega) hgb6
          have hr7 : Hid (RdAt wb6 g a n cap) := hrb6
          have hg7 : Hid (w.grownBy wb6 (some g)) := grown_on hgt6.out hgb6
          have bz7 : Hid (Box wb6 w.heap.size [.int .i64 0, .int .i64 0, .string ⟨#[]⟩] 34) := box_other bzt6.out (by omega) hgb6
          have hok7 : Hid (InOk x1) := hok5
          clear bt6 hrt6 hgt6 bxt6 bzt6 hrb6 hgb6 vl6
          have hS : Hid (IS w g a n cap w.heap.size gi (wb6.setCell ⟨gi, 0, none⟩ (.int .i64 (kk6)))) := is_set (y := ⟨kk6, x1.vN, x1.vName⟩) bx7.out hr7.out hg7.out bz7.out (by have := hgi.out; omega) (by have := hgi.out; omega) hgw rfl ⟨hk6s.out, hok7.out.2.1, hok7.out.2.2⟩
          have cS := bx7.out.cell 0 rfl
          have uS := bx7.out.unfrozen 0
          go_wp2_with fail
          go_meet
          exact hS.out
      · skip
        have bt8 : Hid (Box (wo2.alloc (.cells #[.int .i64 8, .int .i64 9, .int .i64 6, .int .i64 13, .int .i64 8] 2)) wo2.heap.size ([8, 9, 6, 13, 8].map fun n => .int .i64 n) 2) := Box.new wo2 _ _
        have hrt8 : Hid (RdAt (wo2.alloc (.cells #[.int .i64 8, .int .i64 9, .int .i64 6, .int .i64 13, .int .i64 8] 2)) g a n cap) := rd_alloc hr3.out _
        have hgt8 : Hid (w.grownBy (wo2.alloc (.cells #[.int .i64 8, .int .i64 9, .int .i64 6, .int .i64 13, .int .i64 8] 2)) (some g)) := grown_alloc hg3.out _
        have bxt8 : Hid (Box (wo2.alloc (.cells #[.int .i64 8, .int .i64 9, .int .i64 6, .int .i64 13, .int .i64 8] 2)) gi (inL x1) 34) := bx3.out.alloc _
        have bzt8 : Hid (Box (wo2.alloc (.cells #[.int .i64 8, .int .i64 9, .int .i64 6, .int .i64 13, .int .i64 8] 2)) w.heap.size [.int .i64 0, .int .i64 0, .string ⟨#[]⟩] 34) := bz3.out.alloc _
        have hlt8 : g < wo2.heap.size := hr3.out.lt
        clear bx3 hr3 hg3 bz3
        go_wp2_with fail
        refine (below_any hrt8.out 5 (by omega) (by omega)).mono ?_
        rintro e wb8 ⟨vb8, rfl, vp8, vl8, hrb8, hgb8⟩
        obtain ⟨m8, rfl⟩ : ∃ m : Nat, vb8 = (m : Int) := ⟨vb8.toNat, by omega⟩
        obtain ⟨kk8, zt8, hk8r⟩ := box_tab (box_other bt8.out (by omega) hgb8) (by simp [InI]) m8 (by simp; omega)
        have hk8s : Hid (InI kk8) := hk8r
        clear hk8r
        have hml8 : (m8 : Int) < 5 := vl8
        have bx9 : Hid (Box wb8 gi (inL x1) 34) := box_other bxt8.out (by have := hgi.out; omega) hgb8
        have hr9 : Hid (RdAt wb8 g a n cap) := hrb8
        have hg9 : Hid (w.grownBy wb8 (some g)) := grown_on hgt8.out hgb8
        have bz9 : Hid (Box wb8 w.heap.size [.int .i64 0, .int .i64 0, .string ⟨#[]⟩] 34) := box_other bzt8.out (by omega) hgb8
        have hok9 : Hid (InOk x1) := hok3
        clear bt8 hrt8 hgt8 bxt8 bzt8 hrb8 hgb8 vl8
        have hS : Hid (IS w g a n cap w.heap.size gi (wb8.setCell ⟨gi, 0, none⟩ (.int .i64 (kk8)))) := is_set (y := ⟨kk8, x1.vN, x1.vName⟩) bx9.out hr9.out hg9.out bz9.out (by have := hgi.out; omega) (by have := hgi.out; omega) hgw rfl ⟨hk8s.out, hok9.out.2.1, hok9.out.2.2⟩
        have cS := bx9.out.cell 0 rfl
        have uS := bx9.out.unfrozen 0
        go_wp2_with fail
        go_meet
        exact hS.out
    · by_cases h1 : 1 ≤ deep
      · skip
        go_wp2_with fail
        refine (once_any hr1.out 2 (by omega) (by omega)).mono ?_
        rintro e wo10 ⟨v10, rfl, hro10, hgo10⟩
        have bx11 : Hid (Box wo10 gi (inL x1) 34) := box_other bx1.out (by have := hgi.out; omega) hgo10
        have hr11 : Hid (RdAt wo10 g a n cap) := hro10
        have hg11 : Hid (w.grownBy wo10 (some g)) := grown_on hg1.out hgo10
        have bz11 : Hid (Box wo10 w.heap.size [.int .i64 0, .int .i64 0, .string ⟨#[]⟩] 34) := box_other bz1.out (by omega) hgo10
        have hok11 : Hid (InOk x1) := hok1
        clear hro10 hgo10 bx1 hr1 hg1 bz1
        rcases (show v10 = false ∨ v10 = true by cases v10 <;> simp) with rfl | rfl
        · skip
          go_wp2_with fail
          go_meet
          exact ⟨x1, bx11.out, hok11.out, hr11.out, hg11.out, bz11.out⟩
        · skip
          have bt12 : Hid (Box (wo10.alloc (.cells #[.int .i64 4, .int .i64 5, .int .i64 12, .int .i64 14, .int .i64 13, .int .i64 11] 2)) wo10.heap.size ([4, 5, 12, 14, 13, 11].map fun n => .int .i64 n) 2) := Box.new wo10 _ _
          have hrt12 : Hid (RdAt (wo10.alloc (.cells #[.int .i64 4, .int .i64 5, .int .i64 12, .int .i64 14, .int .i64 13, .int .i64 11] 2)) g a n cap) := rd_alloc hr11.out _
          have hgt12 : Hid (w.grownBy (wo10.alloc (.cells #[.int .i64 4, .int .i64 5, .int .i64 12, .int .i64 14, .int .i64 13, .int .i64 11] 2)) (some g)) := grown_alloc hg11.out _
          have bxt12 : Hid (Box (wo10.alloc (.cells #[.int .i64 4, .int .i64 5, .int .i64 12, .int .i64 14, .int .i64 13, .int .i64 11] 2)) gi (inL x1) 34) := bx11.out.alloc _
          have bzt12 : Hid (Box (wo10.alloc (.cells #[.int .i64 4, .int .i64 5, .int .i64 12, .int .i64 14, .int .i64 13, .int .i64 11] 2)) w.heap.size [.int .i64 0, .int .i64 0, .string ⟨#[]⟩] 34) := bz11.out.alloc _
          have hlt12 : g < wo10.heap.size := hr11.out.lt
          clear bx11 hr11 hg11 bz11
          go_wp2_with fail
          refine (below_any hrt12.out 6 (by omega) (by omega)).mono ?_
          rintro e wb12 ⟨vb12, rfl, vp12, vl12, hrb12, hgb12⟩
          obtain ⟨m12, rfl⟩ : ∃ m : Nat, vb12 = (m : Int) := ⟨vb12.toNat, by omega⟩
          obtain ⟨kk12, zt12, hk12r⟩ := box_tab (box_other bt12.out (by omega) hgb12) (by simp [InI]) m12 (by simp; omega)
          have hk12s : Hid (InI kk12) := hk12r
          clear hk12r
          have hml12 : (m12 : Int) < 6 := vl12
          have bx13 : Hid (Box wb12 gi (inL x1) 34) := box_other bxt12.out (by have := hgi.out; omega) hgb12
          have hr13 : Hid (RdAt wb12 g a n cap) := hrb12
          have hg13 : Hid (w.grownBy wb12 (some g)) := grown_on hgt12.out hgb12
          have bz13 : Hid (Box wb12 w.heap.size [.int .i64 0, .int .i64 0, .string ⟨#[]⟩] 34) := box_other bzt12.out (by omega) hgb12
          have hok13 : Hid (InOk x1) := hok11
          clear bt12 hrt12 hgt12 bxt12 bzt12 hrb12 hgb12 vl12
          have hS : Hid (IS w g a n cap w.heap.size gi (wb12.setCell ⟨gi, 0, none⟩ (.int .i64 (kk12)))) := is_set (y := ⟨kk12, x1.vN, x1.vName⟩) bx13.out hr13.out hg13.out bz13.out (by have := hgi.out; omega) (by have := hgi.out; omega) hgw rfl ⟨hk12s.out, hok13.out.2.1, hok13.out.2.2⟩
          have cS := bx13.out.cell 0 rfl
          have uS := bx13.out.unfrozen 0
          go_wp2_with fail
          go_meet
          exact hS.out
      · skip
        go_wp2_with fail
        go_meet
        exact ⟨x1, bx1.out, hok1.out, hr1.out, hg1.out, bz1.out⟩
  case rest =>
  have hIS5 : Hid (IS w g a n cap w.heap.size gi wc) := hcut
  clear hcut hIS
  go_upto_block 1 with fail
  go_cut [40] (fun _ wx => Hid (IS w g a n cap w.heap.size gi wx))
  case first =>
    obtain ⟨x14, bx14r, hok14r, hr14r, hg14r, bz14r⟩ := hIS5.out
    have bx14 : Hid (Box wc gi (inL x14) 34) := bx14r
    have hok14 : Hid (InOk x14) := hok14r
    have hr14 : Hid (RdAt wc g a n cap) := hr14r
    have hg14 : Hid (w.grownBy wc (some g)) := hg14r
    have bz14 : Hid (Box wc w.heap.size [.int .i64 0, .int .i64 0, .string ⟨#[]⟩] 34) := bz14r
    clear bx14r hok14r hr14r hg14r bz14r
    have cK := bx14.out.cell 0 rfl
    by_cases k1 : x14.vKind = 1
    · rw [k1] at cK
      go_wp2_with fail
      refine (below_any hr14.out 9 (by omega) (by omega)).mono ?_
      rintro e wn15 ⟨vn15, rfl, vp15, vl15, hrn15, hgn15⟩
      clear cK
      have bx16 : Hid (Box wn15 gi (inL x14) 34) := box_other bx14.out (by have := hgi.out; omega) hgn15
      have hr16 : Hid (RdAt wn15 g a n cap) := hrn15
      have hg16 : Hid (w.grownBy wn15 (some g)) := grown_on hg14.out hgn15
      have bz16 : Hid (Box wn15 w.heap.size [.int .i64 0, .int .i64 0, .string ⟨#[]⟩] 34) := box_other bz14.out (by omega) hgn15
      have hok16 : Hid (InOk x14) := hok14
      clear hrn15 hgn15 bx14 hr14 hg14 bz14
      have hwr15 := wrap_small (n := vn15 - 3) (by omega) (by omega)
      have hS : Hid (IS w g a n cap w.heap.size gi (wn15.setCell ⟨gi, 1, none⟩ (.int .i64 (vn15 - 3)))) := is_set (y := ⟨x14.vKind, vn15 - 3, x14.vName⟩) bx16.out hr16.out hg16.out bz16.out (by have := hgi.out; omega) (by have := hgi.out; omega) hgw rfl ⟨hok16.out.1, (inI_small (n := vn15 - 3) (by omega) (by omega)), hok16.out.2.2⟩
      have cS := bx16.out.cell 1 rfl
      have uS := bx16.out.unfrozen 1
      go_wp2_with fail
      go_meet
      exact hS.out
    · by_cases k11 : x14.vKind = 11
      · rw [k11] at cK
        have hwa17 := wrap_i64 (n := at' + 1) (by omega) (by omega)
        go_wp2_with fail
        refine (below_any hr14.out 2 (by omega) (by omega)).mono ?_
        rintro e wn17 ⟨vn17, rfl, vp17, vl17, hrn17, hgn17⟩
        clear cK
        have bx18 : Hid (Box wn17 gi (inL x14) 34) := box_other bx14.out (by have := hgi.out; omega) hgn17
        have hr18 : Hid (RdAt wn17 g a n cap) := hrn17
        have hg18 : Hid (w.grownBy wn17 (some g)) := grown_on hg14.out hgn17
        have bz18 : Hid (Box wn17 w.heap.size [.int .i64 0, .int .i64 0, .string ⟨#[]⟩] 34) := box_other bz14.out (by omega) hgn17
        have hok18 : Hid (InOk x14) := hok14
        clear hrn17 hgn17 bx14 hr14 hg14 bz14
        have hwr17 := wrap_i64 (n := at' + 1 + vn17) (by omega) (by omega)
        have hS : Hid (IS w g a n cap w.heap.size gi (wn17.setCell ⟨gi, 1, none⟩ (.int .i64 (at' + 1 + vn17)))) := is_set (y := ⟨x14.vKind, at' + 1 + vn17, x14.vName⟩) bx18.out hr18.out hg18.out bz18.out (by have := hgi.out; omega) (by have := hgi.out; omega) hgw rfl ⟨hok18.out.1, (inI_small (n := at' + 1 + vn17) (by omega) (by omega)), hok18.out.2.2⟩
        have cS := bx18.out.cell 1 rfl
        have uS := bx18.out.unfrozen 1
        go_wp2_with fail
        go_meet
        exact hS.out
      · by_cases k56 : x14.vKind = 5 ∨ x14.vKind = 6
        · rcases k56 with k5 | k5
          · rw [k5] at cK
            have bt19 : Hid (Box (wc.alloc (.cells #[.string ⟨#[120]⟩, .string ⟨#[121]⟩] 9)) wc.heap.size ([⟨#[120]⟩, ⟨#[121]⟩].map Value.string) 9) := Box.new wc _ _
            have hrt19 : Hid (RdAt (wc.alloc (.cells #[.string ⟨#[120]⟩, .string ⟨#[121]⟩] 9)) g a n cap) := rd_alloc hr14.out _
            have hgt19 : Hid (w.grownBy (wc.alloc (.cells #[.string ⟨#[120]⟩, .string ⟨#[121]⟩] 9)) (some g)) := grown_alloc hg14.out _
            have bxt19 : Hid (Box (wc.alloc (.cells #[.string ⟨#[120]⟩, .string ⟨#[121]⟩] 9)) gi (inL x14) 34) := bx14.out.alloc _
            have bzt19 : Hid (Box (wc.alloc (.cells #[.string ⟨#[120]⟩, .string ⟨#[121]⟩] 9)) w.heap.size [.int .i64 0, .int .i64 0, .string ⟨#[]⟩] 34) := bz14.out.alloc _
            have hlt19 : g < wc.heap.size := hr14.out.lt
            clear bx14 hr14 hg14 bz14
            go_wp2_with fail
            refine (below_any hrt19.out 2 (by omega) (by omega)).mono ?_
            rintro e wb19 ⟨vb19, rfl, vp19, vl19, hrb19, hgb19⟩
            obtain ⟨m19, rfl⟩ : ∃ m : Nat, vb19 = (m : Int) := ⟨vb19.toNat, by omega⟩
            have zt19 := box_str (box_other bt19.out (by omega) hgb19) m19 (by simp; omega)
            have hk19s : Hid ((([⟨#[120]⟩, ⟨#[121]⟩] : List ByteArray)[m19]'(by simp; omega)).size ≤ 100) := mem_le (m := 100) (by decide) m19 (by simp; omega)
            generalize ([⟨#[120]⟩, ⟨#[121]⟩] : List ByteArray)[m19]'(by simp; omega) = kk19 at zt19 hk19s
            have hml19 : (m19 : Int) < 2 := vl19
            have bx20 : Hid (Box wb19 gi (inL x14) 34) := box_other bxt19.out (by have := hgi.out; omega) hgb19
            have hr20 : Hid (RdAt wb19 g a n cap) := hrb19
            have hg20 : Hid (w.grownBy wb19 (some g)) := grown_on hgt19.out hgb19
            have bz20 : Hid (Box wb19 w.heap.size [.int .i64 0, .int .i64 0, .string ⟨#[]⟩] 34) := box_other bzt19.out (by omega) hgb19
            have hok20 : Hid (InOk x14) := hok14
            clear bt19 hrt19 hgt19 bxt19 bzt19 hrb19 hgb19 vl19
            have hS : Hid (IS w g a n cap w.heap.size gi (wb19.setCell ⟨gi, 2, none⟩ (.string kk19))) := is_set (y := ⟨x14.vKind, x14.vN, kk19⟩) bx20.out hr20.out hg20.out bz20.out (by have := hgi.out; omega) (by have := hgi.out; omega) hgw rfl ⟨hok20.out.1, hok20.out.2.1, hk19s.out⟩
            have cS := bx20.out.cell 2 rfl
            have uS := bx20.out.unfrozen 2
            go_wp2_with fail
            go_meet
            exact hS.out
          · rw [k5] at cK
            have bt21 : Hid (Box (wc.alloc (.cells #[.string ⟨#[120]⟩, .string ⟨#[121]⟩] 9)) wc.heap.size ([⟨#[120]⟩, ⟨#[121]⟩].map Value.string) 9) := Box.new wc _ _
            have hrt21 : Hid (RdAt (wc.alloc (.cells #[.string ⟨#[120]⟩, .string ⟨#[121]⟩] 9)) g a n cap) := rd_alloc hr14.out _
            have hgt21 : Hid (w.grownBy (wc.alloc (.cells #[.string ⟨#[120]⟩, .string ⟨#[121]⟩] 9)) (some g)) := grown_alloc hg14.out _
            have bxt21 : Hid (Box (wc.alloc (.cells #[.string ⟨#[120]⟩, .string ⟨#[121]⟩] 9)) gi (inL x14) 34) := bx14.out.alloc _
            have bzt21 : Hid (Box (wc.alloc (.cells #[.string ⟨#[120]⟩, .string ⟨#[121]⟩] 9)) w.heap.size [.int .i64 0, .int .i64 0, .string ⟨#[]⟩] 34) := bz14.out.alloc _
            have hlt21 : g < wc.heap.size := hr14.out.lt
            clear bx14 hr14 hg14 bz14
            go_wp2_with fail
            refine (below_any hrt21.out 2 (by omega) (by omega)).mono ?_
            rintro e wb21 ⟨vb21, rfl, vp21, vl21, hrb21, hgb21⟩
            obtain ⟨m21, rfl⟩ : ∃ m : Nat, vb21 = (m : Int) := ⟨vb21.toNat, by omega⟩
            have zt21 := box_str (box_other bt21.out (by omega) hgb21) m21 (by simp; omega)
            have hk21s : Hid ((([⟨#[120]⟩, ⟨#[121]⟩] : List ByteArray)[m21]'(by simp; omega)).size ≤ 100) := mem_le (m := 100) (by decide) m21 (by simp; omega)
            generalize ([⟨#[120]⟩, ⟨#[121]⟩] : List ByteArray)[m21]'(by simp; omega) = kk21 at zt21 hk21s
            have hml21 : (m21 : Int) < 2 := vl21
            have bx22 : Hid (Box wb21 gi (inL x14) 34) := box_other bxt21.out (by have := hgi.out; omega) hgb21
            have hr22 : Hid (RdAt wb21 g a n cap) := hrb21
            have hg22 : Hid (w.grownBy wb21 (some g)) := grown_on hgt21.out hgb21
            have bz22 : Hid (Box wb21 w.heap.size [.int .i64 0, .int .i64 0, .string ⟨#[]⟩] 34) := box_other bzt21.out (by omega) hgb21
            have hok22 : Hid (InOk x14) := hok14
            clear bt21 hrt21 hgt21 bxt21 bzt21 hrb21 hgb21 vl21
            have hS : Hid (IS w g a n cap w.heap.size gi (wb21.setCell ⟨gi, 2, none⟩ (.string kk21))) := is_set (y := ⟨x14.vKind, x14.vN, kk21⟩) bx22.out hr22.out hg22.out bz22.out (by have := hgi.out; omega) (by have := hgi.out; omega) hgw rfl ⟨hok22.out.1, hok22.out.2.1, hk21s.out⟩
            have cS := bx22.out.cell 2 rfl
            have uS := bx22.out.unfrozen 2
            go_wp2_with fail
            go_meet
            exact hS.out
        · have k5 : ¬ x14.vKind = 5 := by omega
          have k6 : ¬ x14.vKind = 6 := by omega
          have k5b : (x14.vKind == 5) = false := by simpa using k5
          have k6b : (x14.vKind == 6) = false := by simpa using k6
          clear k56
          by_cases kn : 3 ≤ x14.vKind ∧ x14.vKind ≤ 6
          · skip
            have hnm : Hid (3 ≤ x14.vKind ∧ x14.vKind ≤ 6) := kn
            go_wp2_with (go_at_call 20; refine (named_yes _ _ hnm.out).mono ?_; rintro e w' ⟨rfl, e9⟩; have e10 := e9.symm; clear e9; subst e10)
            refine (dName_any hr14.out).mono ?_
            rintro e wn23 ⟨nm23, rfl, hnl23, hrn23, hgn23⟩
            have hnl23' : Hid (nm23.size ≤ 100) := hnl23
            clear cK hnl23
            have bx24 : Hid (Box wn23 gi (inL x14) 34) := box_other bx14.out (by have := hgi.out; omega) hgn23
            have hr24 : Hid (RdAt wn23 g a n cap) := hrn23
            have hg24 : Hid (w.grownBy wn23 (some g)) := grown_on hg14.out hgn23
            have bz24 : Hid (Box wn23 w.heap.size [.int .i64 0, .int .i64 0, .string ⟨#[]⟩] 34) := box_other bz14.out (by omega) hgn23
            have hok24 : Hid (InOk x14) := hok14
            clear hrn23 hgn23 bx14 hr14 hg14 bz14
            have hS : Hid (IS w g a n cap w.heap.size gi (wn23.setCell ⟨gi, 2, none⟩ (.string nm23))) := is_set (y := ⟨x14.vKind, x14.vN, nm23⟩) bx24.out hr24.out hg24.out bz24.out (by have := hgi.out; omega) (by have := hgi.out; omega) hgw rfl ⟨hok24.out.1, hok24.out.2.1, hnl23'.out⟩
            have cS := bx24.out.cell 2 rfl
            have uS := bx24.out.unfrozen 2
            go_wp2_with fail
            go_meet
            exact hS.out
          · have hnm : Hid (¬ (3 ≤ x14.vKind ∧ x14.vKind ≤ 6)) := kn
            go_wp2_with (go_at_call 20; refine (named_no _ _ hnm.out).mono ?_; rintro e w' ⟨rfl, e9⟩; have e10 := e9.symm; clear e9; subst e10)
            go_meet
            exact ⟨x14, bx14.out, hok14.out, hr14.out, hg14.out, bz14.out⟩
  case rest =>
  have hIS7 : Hid (IS w g a n cap w.heap.size gi wc) := hcut
  clear hcut hIS5
  obtain ⟨x25, bx25r, hok25r, hr25r, hg25r, bz25r⟩ := hIS7.out
  have bx25 : Hid (Box wc gi (inL x25) 34) := bx25r
  have hok25 : Hid (InOk x25) := hok25r
  have hr25 : Hid (RdAt wc g a n cap) := hr25r
  have hg25 : Hid (w.grownBy wc (some g)) := hg25r
  have bz25 : Hid (Box wc w.heap.size [.int .i64 0, .int .i64 0, .string ⟨#[]⟩] 34) := bz25r
  clear bx25r hok25r hr25r hg25r bz25r
  go_wp2_with fail
  refine (once_any hr25.out 60 (by omega) (by omega)).mono ?_
  rintro e wo26 ⟨v26, rfl, hro26, hgo26⟩
  have bx27 : Hid (Box wo26 gi (inL x25) 34) := box_other bx25.out (by have := hgi.out; omega) hgo26
  have hr27 : Hid (RdAt wo26 g a n cap) := hro26
  have hg27 : Hid (w.grownBy wo26 (some g)) := grown_on hg25.out hgo26
  have bz27 : Hid (Box wo26 w.heap.size [.int .i64 0, .int .i64 0, .string ⟨#[]⟩] 34) := box_other bz25.out (by omega) hgo26
  have hok27 : Hid (InOk x25) := hok25
  clear hro26 hgo26 bx25 hr25 hg25 bz25
  rcases (show v26 = false ∨ v26 = true by cases v26 <;> simp) with rfl | rfl
  · skip
    have hokF : Hid (InOk x25) := hok27
    have fr0 := bx27.out.cell 0 rfl
    have fr1 := bx27.out.cell 1 rfl
    have fr2 := bx27.out.cell 2 rfl
    have fz0 := bz27.out.cell 0 rfl
    have fz1 := bz27.out.cell 1 rfl
    have fz2 := bz27.out.cell 2 rfl
    have fu0 := bz27.out.unfrozen 0
    have fu1 := bz27.out.unfrozen 1
    have fu2 := bz27.out.unfrozen 2
    have bF : Hid (Box _ _ _ _) := ((bz27.out.set (i := 0) (.int .i64 x25.vKind)).set (i := 1) (.int .i64 x25.vN)).set (i := 2) (.string x25.vName)
    have rF : Hid (RdAt ((((wo26).setCell ⟨w.heap.size, 0, none⟩ (.int .i64 x25.vKind)).setCell ⟨w.heap.size, 1, none⟩ (.int .i64 x25.vN)).setCell ⟨w.heap.size, 2, none⟩ (.string x25.vName)) g a n cap) := rd_set (rd_set (rd_set hr27.out hgw _) hgw _) hgw _
    have gF : Hid (w.grownBy ((((wo26).setCell ⟨w.heap.size, 0, none⟩ (.int .i64 x25.vKind)).setCell ⟨w.heap.size, 1, none⟩ (.int .i64 x25.vN)).setCell ⟨w.heap.size, 2, none⟩ (.string x25.vName)) (some g)) := grown_new (grown_new (grown_new hg27.out (Nat.le_refl _) _) (Nat.le_refl _) _) (Nat.le_refl _) _
    go_wp2_with fail
    have r0 := bF.out.cell 0 rfl
    have r1 := bF.out.cell 1 rfl
    have r2 := bF.out.cell 2 rfl
    exact bodyPost_ret (v := .agg #[.int .i64 x25.vKind, .int .i64 x25.vN, .string x25.vName]) (by simp [results, Tryz.results45, go_sem, r0, r1, r2]) rfl ⟨⟨x25, rfl, hokF.out⟩, rF.out, gF.out⟩
  · skip
    go_wp2_with fail
    refine (off_any hr27.out 0 5 (by omega) (by omega) (by omega) (by omega)).mono ?_
    rintro e wn28 ⟨vn28, rfl, hvi28, hrn28, hgn28⟩
    have hvi28' : Hid (InI vn28) := hvi28
    clear hvi28
    have bx29 : Hid (Box wn28 gi (inL x25) 34) := box_other bx27.out (by have := hgi.out; omega) hgn28
    have hr29 : Hid (RdAt wn28 g a n cap) := hrn28
    have hg29 : Hid (w.grownBy wn28 (some g)) := grown_on hg27.out hgn28
    have bz29 : Hid (Box wn28 w.heap.size [.int .i64 0, .int .i64 0, .string ⟨#[]⟩] 34) := box_other bz27.out (by omega) hgn28
    have hok29 : Hid (InOk x25) := hok27
    clear hrn28 hgn28 bx27 hr27 hg27 bz27
    have cS := bx29.out.cell 1 rfl
    have uS := bx29.out.unfrozen 1
    have hS : Hid (IS w g a n cap w.heap.size gi (wn28.setCell ⟨gi, 1, none⟩ (.int .i64 vn28))) := is_set (y := ⟨x25.vKind, vn28, x25.vName⟩) bx29.out hr29.out hg29.out bz29.out (by have := hgi.out; omega) (by have := hgi.out; omega) hgw rfl ⟨hok29.out.1, hvi28'.out, hok29.out.2.2⟩
    go_upto_region 16 with fail
    generalize (wn28.setCell ⟨gi, 1, none⟩ (.int .i64 vn28)) = w9 at hS ⊢
    clear cS uS
    obtain ⟨x30, bx30r, hok30r, hr30r, hg30r, bz30r⟩ := hS.out
    have bx30 : Hid (Box w9 gi (inL x30) 34) := bx30r
    have hok30 : Hid (InOk x30) := hok30r
    have hr30 : Hid (RdAt w9 g a n cap) := hr30r
    have hg30 : Hid (w.grownBy w9 (some g)) := hg30r
    have bz30 : Hid (Box w9 w.heap.size [.int .i64 0, .int .i64 0, .string ⟨#[]⟩] 34) := bz30r
    clear bx30r hok30r hr30r hg30r bz30r
    have hokF : Hid (InOk x30) := hok30
    have fr0 := bx30.out.cell 0 rfl
    have fr1 := bx30.out.cell 1 rfl
    have fr2 := bx30.out.cell 2 rfl
    have fz0 := bz30.out.cell 0 rfl
    have fz1 := bz30.out.cell 1 rfl
    have fz2 := bz30.out.cell 2 rfl
    have fu0 := bz30.out.unfrozen 0
    have fu1 := bz30.out.unfrozen 1
    have fu2 := bz30.out.unfrozen 2
    have bF : Hid (Box _ _ _ _) := ((bz30.out.set (i := 0) (.int .i64 x30.vKind)).set (i := 1) (.int .i64 x30.vN)).set (i := 2) (.string x30.vName)
    have rF : Hid (RdAt ((((w9).setCell ⟨w.heap.size, 0, none⟩ (.int .i64 x30.vKind)).setCell ⟨w.heap.size, 1, none⟩ (.int .i64 x30.vN)).setCell ⟨w.heap.size, 2, none⟩ (.string x30.vName)) g a n cap) := rd_set (rd_set (rd_set hr30.out hgw _) hgw _) hgw _
    have gF : Hid (w.grownBy ((((w9).setCell ⟨w.heap.size, 0, none⟩ (.int .i64 x30.vKind)).setCell ⟨w.heap.size, 1, none⟩ (.int .i64 x30.vN)).setCell ⟨w.heap.size, 2, none⟩ (.string x30.vName)) (some g)) := grown_new (grown_new (grown_new hg30.out (Nat.le_refl _) _) (Nat.le_refl _) _) (Nat.le_refl _) _
    go_wp2_with fail
    have r0 := bF.out.cell 0 rfl
    have r1 := bF.out.cell 1 rfl
    have r2 := bF.out.cell 2 rfl
    exact bodyPost_ret (v := .agg #[.int .i64 x30.vKind, .int .i64 x30.vN, .string x30.vName]) (by simp [results, Tryz.results45, go_sem, r0, r1, r2]) rfl ⟨⟨x30, rfl, hokF.out⟩, rF.out, gF.out⟩
end Go.Proofs.YtdapgihghbmlfaaGreatDoor
