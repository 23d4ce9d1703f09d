/- Lists of records copied by the program, walked: a row of its own with the same cells. -/
import Derived.Test.YtnonfehmbabfhaaGreatAppendRows
import Derived.Test.YtnonfehmbabfhaaGreatListCopy
import Derived.Test.YtnonfehmbabfhaaGreatCntPlain
import Derived.Test.YtnonfehmbabfhaaGreatTakeLit
import Derived.Deep.RegionHeld3
import Derived.WalkKit
namespace Go.Proofs.YtnonfehmbabfhaaGreat
open Go.RowKit
/-- cells of a row, read in an elder world -/
theorem CssAt.on {α : Type} {c : Nat} {R : World → Nat → List Value → α → Prop} {w w' : World} {lo : Nat} {a : Option Addr} {xs : List α} {css : List (List Value)} (h : CssAt c R w lo a xs css) (hb : Below w.heap.size w w') : CssAt c (fun _ => R w) w' lo a xs css := by
  obtain ⟨k1, k2, k3, k4, k5⟩ := h
  exact ⟨k1, k2, k3, k4, fun ad e j u hu => cell_on hb (k5 ad e j u hu)⟩
theorem Node_one {w : World} {lo : Nat} {cs : List Value} {x : NodeD} (h : NodeAt w lo cs x) : ∀ u ∈ cs, u.oneCell' = true := by
  obtain ⟨k3, k5, rfl, s3, s5, _⟩ := h
  obtain ⟨a3, c3, rfl⟩ := s3.form
  obtain ⟨a5, c5, rfl⟩ := s5.form
  intro u hu
  simp only [List.mem_cons, List.not_mem_nil, or_false] at hu
  rcases hu with rfl | rfl | rfl | rfl | rfl | rfl <;> rfl
theorem Node_css {w : World} {lo : Nat} {a : Option Addr} {xs : List NodeD} {css : List (List Value)} {w0 : World} (h : CssAt 6 (fun _ => NodeAt w0) w lo a xs css) : ∀ cs ∈ css, ∀ u ∈ cs, u.oneCell' = true := fun cs hc => by
  obtain ⟨i, hi, rfl⟩ := List.mem_iff_getElem.1 hc
  exact Node_one (h.2.2.1 i hi (by have := h.1; omega))
theorem infoNodeC : ∃ i, Tryz.prog.info? 91 = some i ∧ i.zero = some (.agg #[.int .i64 0, .string ByteArray.empty, .int .i64 0, .slice none 0 0, .int .i64 0, .slice none 0 0]) ∧ i.size = 6 ∧ i.bytes = 88 := info_parts2 (by kernel_rfl)
set_option maxHeartbeats 1000000 in
theorem listCopyNode_any {α : Type} {R : World → Nat → List Value → α → Prop} {w : World} {lo : Nat} {a : Option Addr} {cap : Nat} {xs : List α} {css : List (List Value)} (hk : CssAt 6 R w lo a xs css) (hone : ∀ cs ∈ css, ∀ u ∈ cs, u.oneCell' = true) (hl : xs.length ≤ 1048576) :
    Calls Tryz.prog 96 #[.slice a xs.length cap] w fun e w' => (∃ v, e = .returned v ∧ w'.ownsRow w.heap.size 91 6 v xs.length css.flatten) ∧ Below w.heap.size w w' := by
  obtain ⟨iT, hiT0, heT0⟩ := infoNodeC
  have hiT : Hid (Tryz.prog.info? 91 = some iT) := hiT0
  have heT : Hid (iT.zero = some (.agg #[.int .i64 0, .string ByteArray.empty, .int .i64 0, .slice none 0 0, .int .i64 0, .slice none 0 0]) ∧ iT.size = 6 ∧ iT.bytes = 88) := heT0
  have hk' : Hid (CssAt 6 R w lo a xs css) := hk
  have hone' : Hid (∀ cs ∈ css, ∀ u ∈ cs, u.oneCell' = true) := hone
  clear hiT0 heT0 hk hone
  cases a with
  | none =>
    obtain rfl := hk'.out.2.2.2.1 rfl
    have hcs : Hid (css = []) := List.eq_nil_of_length_eq_zero (by simpa using hk'.out.1)
    go_enter Tryz.func96, Tryz.ntmps96
    go_wp2_with (at_builtin; refine wpList_append_none2 rfl _ _ 28 91 iT rfl Tryz.underlying28 hiT.out rfl none cap rfl ?_)
    go_ret
    exact ⟨⟨_, rfl, by rw [hcs.out]; exact World.ownsRow_nil _ _ _ _⟩, Below.refl _ _⟩
  | some ad =>
    go_enter Tryz.func96, Tryz.ntmps96
    go_wp2_with (at_builtin; refine wpList_append_own_at _ rfl _ _ 28 rfl w.heap.size 91 iT _ 6 88 Tryz.underlying28 hiT.out heT.out.1 heT.out.2.1 heT.out.2.2 rfl (by decide) _ 0 [] rfl (World.ownsRow_nil _ _ _ _) ad xs.length cap css.flatten rfl (by rw [css_len hk'.out.2.1, hk'.out.1]) (hk'.out.2.2.2.2 ad rfl) (fun u hu => by obtain ⟨cs, hcs, hu2⟩ := List.mem_flatten.1 hu; exact hone'.out cs hcs u hu2) (by unfold maxLen; omega) (by omega) (Nat.le_refl _) ?_; intro v w1 hown hgrow hnil hat)
    have hown' : Hid (w1.ownsRow w.heap.size 91 6 v (0 + xs.length) ([] ++ css.flatten)) := hown
    have hb1 : Hid (Below w.heap.size w w1) := (Below.refl _ _).grown hgrow (Nat.le_refl _) (fun k e => by cases e)
    clear hown hgrow hnil hat
    go_ret
    have ho := hown'.out
    rw [Nat.zero_add, List.nil_append] at ho
    exact ⟨⟨_, rfl, ho⟩, hb1.out⟩
theorem Obj_one {w : World} {lo : Nat} {cs : List Value} {x : ObjD} (h : ObjAt w lo cs x) : ∀ u ∈ cs, u.oneCell' = true := by
  obtain ⟨k2, rfl, s2, _⟩ := h
  obtain ⟨a2, c2, rfl⟩ := s2.form
  intro u hu
  simp only [List.mem_cons, List.not_mem_nil, or_false] at hu
  rcases hu with rfl | rfl | rfl <;> rfl
theorem Obj_css {w : World} {lo : Nat} {a : Option Addr} {xs : List ObjD} {css : List (List Value)} {w0 : World} (h : CssAt 3 (fun _ => ObjAt w0) w lo a xs css) : ∀ cs ∈ css, ∀ u ∈ cs, u.oneCell' = true := fun cs hc => by
  obtain ⟨i, hi, rfl⟩ := List.mem_iff_getElem.1 hc
  exact Obj_one (h.2.2.1 i hi (by have := h.1; omega))
theorem infoObjC : ∃ i, Tryz.prog.info? 95 = some i ∧ i.zero = some (.agg #[.int .i64 0, .int .i64 0, .slice none 0 0]) ∧ i.size = 3 ∧ i.bytes = 40 := info_parts2 (by kernel_rfl)
set_option maxHeartbeats 1000000 in
theorem listCopyObj_any {α : Type} {R : World → Nat → List Value → α → Prop} {w : World} {lo : Nat} {a : Option Addr} {cap : Nat} {xs : List α} {css : List (List Value)} (hk : CssAt 3 R w lo a xs css) (hone : ∀ cs ∈ css, ∀ u ∈ cs, u.oneCell' = true) (hl : xs.length ≤ 1048576) :
    Calls Tryz.prog 99 #[.slice a xs.length cap] w fun e w' => (∃ v, e = .returned v ∧ w'.ownsRow w.heap.size 95 3 v xs.length css.flatten) ∧ Below w.heap.size w w' := by
  obtain ⟨iT, hiT0, heT0⟩ := infoObjC
  have hiT : Hid (Tryz.prog.info? 95 = some iT) := hiT0
  have heT : Hid (iT.zero = some (.agg #[.int .i64 0, .int .i64 0, .slice none 0 0]) ∧ iT.size = 3 ∧ iT.bytes = 40) := heT0
  have hk' : Hid (CssAt 3 R w lo a xs css) := hk
  have hone' : Hid (∀ cs ∈ css, ∀ u ∈ cs, u.oneCell' = true) := hone
  clear hiT0 heT0 hk hone
  cases a with
  | none =>
    obtain rfl := hk'.out.2.2.2.1 rfl
    have hcs : Hid (css = []) := List.eq_nil_of_length_eq_zero (by simpa using hk'.out.1)
    go_enter Tryz.func99, Tryz.ntmps99
    go_wp2_with (at_builtin; refine wpList_append_none2 rfl _ _ 29 95 iT rfl Tryz.underlying29 hiT.out rfl none cap rfl ?_)
    go_ret
    exact ⟨⟨_, rfl, by rw [hcs.out]; exact World.ownsRow_nil _ _ _ _⟩, Below.refl _ _⟩
  | some ad =>
    go_enter Tryz.func99, Tryz.ntmps99
    go_wp2_with (at_builtin; refine wpList_append_own_at _ rfl _ _ 29 rfl w.heap.size 95 iT _ 3 40 Tryz.underlying29 hiT.out heT.out.1 heT.out.2.1 heT.out.2.2 rfl (by decide) _ 0 [] rfl (World.ownsRow_nil _ _ _ _) ad xs.length cap css.flatten rfl (by rw [css_len hk'.out.2.1, hk'.out.1]) (hk'.out.2.2.2.2 ad rfl) (fun u hu => by obtain ⟨cs, hcs, hu2⟩ := List.mem_flatten.1 hu; exact hone'.out cs hcs u hu2) (by unfold maxLen; omega) (by omega) (Nat.le_refl _) ?_; intro v w1 hown hgrow hnil hat)
    have hown' : Hid (w1.ownsRow w.heap.size 95 3 v (0 + xs.length) ([] ++ css.flatten)) := hown
    have hb1 : Hid (Below w.heap.size w w1) := (Below.refl _ _).grown hgrow (Nat.le_refl _) (fun k e => by cases e)
    clear hown hgrow hnil hat
    go_ret
    have ho := hown'.out
    rw [Nat.zero_add, List.nil_append] at ho
    exact ⟨⟨_, rfl, ho⟩, hb1.out⟩
theorem Field_one {w : World} {lo : Nat} {cs : List Value} {x : FieldD} (h : FieldAt w lo cs x) : ∀ u ∈ cs, u.oneCell' = true := by
  obtain ⟨rfl, _⟩ := h
  intro u hu
  simp only [List.mem_cons, List.not_mem_nil, or_false] at hu
  rcases hu with rfl | rfl <;> rfl
theorem Field_css {w : World} {lo : Nat} {a : Option Addr} {xs : List FieldD} {css : List (List Value)} {w0 : World} (h : CssAt 2 (fun _ => FieldAt w0) w lo a xs css) : ∀ cs ∈ css, ∀ u ∈ cs, u.oneCell' = true := fun cs hc => by
  obtain ⟨i, hi, rfl⟩ := List.mem_iff_getElem.1 hc
  exact Field_one (h.2.2.1 i hi (by have := h.1; omega))
theorem infoFieldC : ∃ i, Tryz.prog.info? 102 = some i ∧ i.zero = some (.agg #[.string ByteArray.empty, .int .i64 0]) ∧ i.size = 2 ∧ i.bytes = 24 := info_parts2 (by kernel_rfl)
set_option maxHeartbeats 1000000 in
theorem listCopyField_any {α : Type} {R : World → Nat → List Value → α → Prop} {w : World} {lo : Nat} {a : Option Addr} {cap : Nat} {xs : List α} {css : List (List Value)} (hk : CssAt 2 R w lo a xs css) (hone : ∀ cs ∈ css, ∀ u ∈ cs, u.oneCell' = true) (hl : xs.length ≤ 1048576) :
    Calls Tryz.prog 100 #[.slice a xs.length cap] w fun e w' => (∃ v, e = .returned v ∧ w'.ownsRow w.heap.size 102 2 v xs.length css.flatten) ∧ Below w.heap.size w w' := by
  obtain ⟨iT, hiT0, heT0⟩ := infoFieldC
  have hiT : Hid (Tryz.prog.info? 102 = some iT) := hiT0
  have heT : Hid (iT.zero = some (.agg #[.string ByteArray.empty, .int .i64 0]) ∧ iT.size = 2 ∧ iT.bytes = 24) := heT0
  have hk' : Hid (CssAt 2 R w lo a xs css) := hk
  have hone' : Hid (∀ cs ∈ css, ∀ u ∈ cs, u.oneCell' = true) := hone
  clear hiT0 heT0 hk hone
  cases a with
  | none =>
    obtain rfl := hk'.out.2.2.2.1 rfl
    have hcs : Hid (css = []) := List.eq_nil_of_length_eq_zero (by simpa using hk'.out.1)
    go_enter Tryz.func100, Tryz.ntmps100
    go_wp2_with (at_builtin; refine wpList_append_none2 rfl _ _ 30 102 iT rfl Tryz.underlying30 hiT.out rfl none cap rfl ?_)
    go_ret
    exact ⟨⟨_, rfl, by rw [hcs.out]; exact World.ownsRow_nil _ _ _ _⟩, Below.refl _ _⟩
  | some ad =>
    go_enter Tryz.func100, Tryz.ntmps100
    go_wp2_with (at_builtin; refine wpList_append_own_at _ rfl _ _ 30 rfl w.heap.size 102 iT _ 2 24 Tryz.underlying30 hiT.out heT.out.1 heT.out.2.1 heT.out.2.2 rfl (by decide) _ 0 [] rfl (World.ownsRow_nil _ _ _ _) ad xs.length cap css.flatten rfl (by rw [css_len hk'.out.2.1, hk'.out.1]) (hk'.out.2.2.2.2 ad rfl) (fun u hu => by obtain ⟨cs, hcs, hu2⟩ := List.mem_flatten.1 hu; exact hone'.out cs hcs u hu2) (by unfold maxLen; omega) (by omega) (Nat.le_refl _) ?_; intro v w1 hown hgrow hnil hat)
    have hown' : Hid (w1.ownsRow w.heap.size 102 2 v (0 + xs.length) ([] ++ css.flatten)) := hown
    have hb1 : Hid (Below w.heap.size w w1) := (Below.refl _ _).grown hgrow (Nat.le_refl _) (fun k e => by cases e)
    clear hown hgrow hnil hat
    go_ret
    have ho := hown'.out
    rw [Nat.zero_add, List.nil_append] at ho
    exact ⟨⟨_, rfl, ho⟩, hb1.out⟩
theorem Listener_one {w : World} {lo : Nat} {cs : List Value} {x : ListenerD} (h : ListenerAt w lo cs x) : ∀ u ∈ cs, u.oneCell' = true := by
  obtain ⟨rfl, _⟩ := h
  intro u hu
  simp only [List.mem_cons, List.not_mem_nil, or_false] at hu
  rcases hu with rfl | rfl | rfl | rfl | rfl <;> rfl
theorem Listener_css {w : World} {lo : Nat} {a : Option Addr} {xs : List ListenerD} {css : List (List Value)} {w0 : World} (h : CssAt 5 (fun _ => ListenerAt w0) w lo a xs css) : ∀ cs ∈ css, ∀ u ∈ cs, u.oneCell' = true := fun cs hc => by
  obtain ⟨i, hi, rfl⟩ := List.mem_iff_getElem.1 hc
  exact Listener_one (h.2.2.1 i hi (by have := h.1; omega))
theorem infoListenerC : ∃ i, Tryz.prog.info? 127 = some i ∧ i.zero = some (.agg #[.string ByteArray.empty, .bool false, .bool false, .int .i64 0, .string ByteArray.empty]) ∧ i.size = 5 ∧ i.bytes = 48 := info_parts2 (by kernel_rfl)
set_option maxHeartbeats 1000000 in
theorem listCopyListener_any {α : Type} {R : World → Nat → List Value → α → Prop} {w : World} {lo : Nat} {a : Option Addr} {cap : Nat} {xs : List α} {css : List (List Value)} (hk : CssAt 5 R w lo a xs css) (hone : ∀ cs ∈ css, ∀ u ∈ cs, u.oneCell' = true) (hl : xs.length ≤ 1048576) :
    Calls Tryz.prog 98 #[.slice a xs.length cap] w fun e w' => (∃ v, e = .returned v ∧ w'.ownsRow w.heap.size 127 5 v xs.length css.flatten) ∧ Below w.heap.size w w' := by
  obtain ⟨iT, hiT0, heT0⟩ := infoListenerC
  have hiT : Hid (Tryz.prog.info? 127 = some iT) := hiT0
  have heT : Hid (iT.zero = some (.agg #[.string ByteArray.empty, .bool false, .bool false, .int .i64 0, .string ByteArray.empty]) ∧ iT.size = 5 ∧ iT.bytes = 48) := heT0
  have hk' : Hid (CssAt 5 R w lo a xs css) := hk
  have hone' : Hid (∀ cs ∈ css, ∀ u ∈ cs, u.oneCell' = true) := hone
  clear hiT0 heT0 hk hone
  cases a with
  | none =>
    obtain rfl := hk'.out.2.2.2.1 rfl
    have hcs : Hid (css = []) := List.eq_nil_of_length_eq_zero (by simpa using hk'.out.1)
    go_enter Tryz.func98, Tryz.ntmps98
    go_wp2_with (at_builtin; refine wpList_append_none2 rfl _ _ 89 127 iT rfl Tryz.underlying89 hiT.out rfl none cap rfl ?_)
    go_ret
    exact ⟨⟨_, rfl, by rw [hcs.out]; exact World.ownsRow_nil _ _ _ _⟩, Below.refl _ _⟩
  | some ad =>
    go_enter Tryz.func98, Tryz.ntmps98
    go_wp2_with (at_builtin; refine wpList_append_own_at _ rfl _ _ 89 rfl w.heap.size 127 iT _ 5 48 Tryz.underlying89 hiT.out heT.out.1 heT.out.2.1 heT.out.2.2 rfl (by decide) _ 0 [] rfl (World.ownsRow_nil _ _ _ _) ad xs.length cap css.flatten rfl (by rw [css_len hk'.out.2.1, hk'.out.1]) (hk'.out.2.2.2.2 ad rfl) (fun u hu => by obtain ⟨cs, hcs, hu2⟩ := List.mem_flatten.1 hu; exact hone'.out cs hcs u hu2) (by unfold maxLen; omega) (by omega) (Nat.le_refl _) ?_; intro v w1 hown hgrow hnil hat)
    have hown' : Hid (w1.ownsRow w.heap.size 127 5 v (0 + xs.length) ([] ++ css.flatten)) := hown
    have hb1 : Hid (Below w.heap.size w w1) := (Below.refl _ _).grown hgrow (Nat.le_refl _) (fun k e => by cases e)
    clear hown hgrow hnil hat
    go_ret
    have ho := hown'.out
    rw [Nat.zero_add, List.nil_append] at ho
    exact ⟨⟨_, rfl, ho⟩, hb1.out⟩
end Go.Proofs.YtnonfehmbabfhaaGreat
namespace Go.Proofs.YtnonfehmbabfhaaGreat
open Go.RowKit
theorem row_form2 {w : World} {base e size n : Nat} {v : Value} {xs : List Value} (h : w.ownsRow base e size v n xs) : ∃ a cap, v = .slice a n cap := by
  rcases h.2 with ⟨rfl, hn⟩ | ⟨g, cap, cur, rfl, _⟩
  · exact ⟨none, 0, by rw [hn]⟩
  · exact ⟨_, _, rfl⟩
theorem row_keep2 {w w' : World} {base e size n : Nat} {v : Value} {xs : List Value} (h : w.ownsRow base e size v n xs) (hk : ∀ g, v.ownBlock = some g → w'.heap[g]? = w.heap[g]?) : w'.ownsRow base e size v n xs := by
  refine ⟨h.1, ?_⟩
  rcases h.2 with h2 | ⟨g, cap, cur, hv, hg, hh, r⟩
  · exact Or.inl h2
  · exact Or.inr ⟨g, cap, cur, hv, hg, (hk g (by rw [hv]; rfl)).trans hh, r⟩
theorem listener_own2 {w0 w : World} {lo : Nat} (cs : List Value) (x : ListenerD) (h : ListenerAt w0 lo cs x) : ListenerOwn w cs x [] := by
  obtain ⟨e, r0, r1, r2, _⟩ := h
  exact ⟨e, r0, r1, r2, rfl⟩
theorem field_own2 {w0 w : World} {lo : Nat} (cs : List Value) (x : FieldD) (h : FieldAt w0 lo cs x) : FieldOwn w cs x [] := by
  obtain ⟨e, r0, r1, _⟩ := h
  exact ⟨e, r0, r1, rfl⟩
theorem cell_set {w : World} {b i T f : Nat} {v : Value} (h : w.cell? ⟨b, i, none⟩ = some v) (hne : b ≠ T) (u : Value) : (w.setCell ⟨T, f, none⟩ u).cell? ⟨b, i, none⟩ = some v := by
  rw [World.cell?_of_block (w := w) (set_other hne _)]; exact h
/-- what a call that makes a heap tells -/
def AnsH (w w' : World) (cs : List Value) (x : HeapD) : Prop := ∃ fs : List Nat, HeapOwn w' cs x fs ∧ fs.Nodup ∧ ∀ b ∈ fs, w.heap.size ≤ b
set_option maxRecDepth 100000 in
set_option maxHeartbeats 6000000 in
theorem copyOf_any {w : World} {lo : Nat} {cs : List Value} {x : HeapD} (hx : HeapAt w lo cs x) (hs : x.small) :
    Calls Tryz.prog 70 #[.agg cs.toArray] w fun e w' => (∃ cs', e = .returned (.agg cs'.toArray) ∧ AnsH w w' cs' x) ∧ Below w.heap.size w w' := by
  obtain ⟨k2, k3, k4, rfl, s2, s3, s4, rN, rD, _⟩ := hx
  obtain ⟨a2, c2, rfl⟩ := s2.form
  obtain ⟨a3, c3, rfl⟩ := s3.form
  obtain ⟨a4, c4, rfl⟩ := s4.form
  obtain ⟨cssN, hcN0⟩ := seq_css (by decide) s2
  obtain ⟨cssO, hcO0⟩ := seq_css (by decide) s3
  obtain ⟨cssG, hcG0⟩ := seq_css (by decide) s4
  have hcN : Hid (CssAt 6 NodeAt w lo a2 x.vNodes cssN) := hcN0
  have hcO : Hid (CssAt 3 ObjAt w lo a3 x.vObjs cssO) := hcO0
  have hcG : Hid (CssAt 2 FieldAt w lo a4 x.vGlobals cssG) := hcG0
  have hrr : Hid (InI x.vNext ∧ InI x.vDoc) := ⟨rN, rD⟩
  have hl2 : x.vNodes.length ≤ 1048576 := hs.1.1
  have hl3o : x.vObjs.length ≤ 1048576 := hs.2.1.1
  have hl4 : x.vGlobals.length ≤ 1048576 := hs.2.2.1.1
  have hsm : Hid x.small := hs
  clear s2 s3 s4 hcN0 hcO0 hcG0 rN rD hs
  have hbA : Hid (Below w.heap.size w ((w.alloc (.cells #[.int .i64 x.vNext, .int .i64 x.vDoc, .slice a2 x.vNodes.length c2, .slice a3 x.vObjs.length c3, .slice a4 x.vGlobals.length c4] 32)).alloc (.cells #[.int .i64 0, .int .i64 0, .slice none 0 0, .slice none 0 0, .slice none 0 0] 32))) := ((Below.refl _ _).alloc (Nat.le_refl _) _).alloc (by simp) _
  have hzA : ((w.alloc (.cells #[.int .i64 x.vNext, .int .i64 x.vDoc, .slice a2 x.vNodes.length c2, .slice a3 x.vObjs.length c3, .slice a4 x.vGlobals.length c4] 32)).alloc (.cells #[.int .i64 0, .int .i64 0, .slice none 0 0, .slice none 0 0, .slice none 0 0] 32)).heap.size = w.heap.size + 2 := by simp
  have bx0 : Hid (Box ((w.alloc (.cells #[.int .i64 x.vNext, .int .i64 x.vDoc, .slice a2 x.vNodes.length c2, .slice a3 x.vObjs.length c3, .slice a4 x.vGlobals.length c4] 32)).alloc (.cells #[.int .i64 0, .int .i64 0, .slice none 0 0, .slice none 0 0, .slice none 0 0] 32)) w.heap.size [.int .i64 x.vNext, .int .i64 x.vDoc, .slice a2 x.vNodes.length c2, .slice a3 x.vObjs.length c3, .slice a4 x.vGlobals.length c4] 32) := (Box.new w _ _).alloc _
  have bz0 : Hid (Box ((w.alloc (.cells #[.int .i64 x.vNext, .int .i64 x.vDoc, .slice a2 x.vNodes.length c2, .slice a3 x.vObjs.length c3, .slice a4 x.vGlobals.length c4] 32)).alloc (.cells #[.int .i64 0, .int .i64 0, .slice none 0 0, .slice none 0 0, .slice none 0 0] 32)) (w.heap.size + 1) [.int .i64 0, .int .i64 0, .slice none 0 0, .slice none 0 0, .slice none 0 0] 32) := by have h5 := Box.new (w.alloc (.cells #[.int .i64 x.vNext, .int .i64 x.vDoc, .slice a2 x.vNodes.length c2, .slice a3 x.vObjs.length c3, .slice a4 x.vGlobals.length c4] 32)) [.int .i64 0, .int .i64 0, .slice none 0 0, .slice none 0 0, .slice none 0 0] 32; simp only [World.size_alloc] at h5; exact h5
  go_enter Tryz.func70, Tryz.ntmps70
  go_wp2_with fail
  refine (listCopyNode_any (R := fun _ => NodeAt w) (by exact hcN.out.on hbA.out) (by exact Node_css (hcN.out.on hbA.out)) hl2).mono ?_
  rintro e w1 ⟨⟨v2, rfl, hown2⟩, hb1⟩
  rw [hzA] at hown2 hb1
  obtain ⟨p2, d2, rfl⟩ : ∃ a cap, v2 = .slice a x.vNodes.length cap := row_form2 hown2
  have hz1 : w.heap.size + 2 ≤ w1.heap.size := by have := hb1.size; rw [hzA] at this; exact this
  have bx1 : Box w1 w.heap.size [.int .i64 x.vNext, .int .i64 x.vDoc, .slice a2 x.vNodes.length c2, .slice a3 x.vObjs.length c3, .slice a4 x.vGlobals.length c4] 32 := bx0.out.below hb1 (by omega)
  have bz1 : Hid (Box w1 (w.heap.size + 1) [.int .i64 0, .int .i64 0, .slice none 0 0, .slice none 0 0, .slice none 0 0] 32) := bz0.out.below hb1 (by omega)
  have hfv0 : FillV 91 6 NodeOwn (NodeAt w lo) (w.heap.size + 2) w1 w1 (.slice p2 x.vNodes.length d2) x.vNodes 0 := FillV.start hz1 hown2 hcN.out.1 hcN.out.2.1 hcN.out.2.2.1
  have hfv : Hid (FillV 91 6 NodeOwn (NodeAt w lo) (w.heap.size + 2) (w1.setCell ⟨w.heap.size, 2, none⟩ (.slice p2 x.vNodes.length d2)) (w1.setCell ⟨w.heap.size, 2, none⟩ (.slice p2 x.vNodes.length d2)) (.slice p2 x.vNodes.length d2) x.vNodes 0) := hfv0.elder (fun b qq => set_other (by omega) _) (set_size ..)
  have bxS : Hid (Box (w1.setCell ⟨w.heap.size, 2, none⟩ (.slice p2 x.vNodes.length d2)) w.heap.size [.int .i64 x.vNext, .int .i64 x.vDoc, .slice p2 x.vNodes.length d2, .slice a3 x.vObjs.length c3, .slice a4 x.vGlobals.length c4] 32) := bx1.set (i := 2) _
  have bzS : Hid (Box (w1.setCell ⟨w.heap.size, 2, none⟩ (.slice p2 x.vNodes.length d2)) (w.heap.size + 1) [.int .i64 0, .int .i64 0, .slice none 0 0, .slice none 0 0, .slice none 0 0] 32) := bz1.out.other (by omega) _
  have hBS : Hid (Below w.heap.size w (w1.setCell ⟨w.heap.size, 2, none⟩ (.slice p2 x.vNodes.length d2))) := (hbA.out.trans (hb1.mono (by omega))).setCell (by simp) _
  have cx2 := bx1.cell 2 rfl
  have fx := bx1.unfrozen
  have cS2 := bxS.out.cell 2 rfl
  clear hown2 hb1 bx0 bz0 hfv0 hbA
  go_wp2_with fail
  clear cx2 fx cS2 bx1 bz1 hz1
  generalize (w1.setCell ⟨w.heap.size, 2, none⟩ (.slice p2 x.vNodes.length d2)) = WS at hfv bxS bzS hBS
  go_loopw [12] (fun i wr => ∃ (j : Nat), j ≤ x.vNodes.length ∧ i = .int .i64 j ∧ Hid (FillV 91 6 NodeOwn (NodeAt w lo) (w.heap.size + 2) WS wr (.slice p2 x.vNodes.length d2) x.vNodes j)) (fun i _ => x.vNodes.length - (intOf i).toNat)
  case atStart => exact ⟨0, by omega, rfl, hfv⟩
  case round =>
    obtain ⟨j, hj, rfl, hf⟩ := hrel
    have hbr : Below (w.heap.size + 2) WS wr := hf.out.1
    have hzr : w.heap.size + 2 ≤ wr.heap.size := hf.out.2.1
    have bxr : Hid (Box wr w.heap.size [.int .i64 x.vNext, .int .i64 x.vDoc, .slice p2 x.vNodes.length d2, .slice a3 x.vObjs.length c3, .slice a4 x.vGlobals.length c4] 32) := bxS.out.below hbr (by omega)
    have bzr : Hid (Box wr (w.heap.size + 1) [.int .i64 0, .int .i64 0, .slice none 0 0, .slice none 0 0, .slice none 0 0] 32) := bzS.out.below hbr (by omega)
    have hwr : Hid (Below w.heap.size w wr) := hBS.out.trans (hbr.mono (by omega))
    by_cases hlt : j < x.vNodes.length
    · obtain ⟨g, C, cs, rfl, hgb, hgl, hcl, hrow, hO, hclose⟩ := hf.out.turn NodeOwn_stays hlt
      have hsX := hsm.out.1.2 j hlt
      have hclose' : Hid _ := hclose
      generalize x.vNodes[j] = X at hO hsX hclose'
      obtain ⟨k3, k5, rfl, s3, s5, rI, rT, rP, rW, _⟩ := hO
      have hl3 : X.vKids.length ≤ 1048576 := hsX.2.1
      have hl5 : X.vListeners.length ≤ 1048576 := hsX.2.2.1.1
      have hrX : Hid (InI X.vId ∧ X.vTag.size ≤ maxLen ∧ InI X.vParent ∧ InI X.vWrapper) := ⟨rI, rT, rP, rW⟩
      obtain ⟨a7, c7, rfl⟩ := s3.form
      obtain ⟨a8, c8, rfl⟩ := s5.form
      obtain ⟨css5, hcL0⟩ := seq_css (by decide) s5
      have hcL : Hid (CssAt 5 ListenerAt w lo a8 X.vListeners css5) := hcL0
      have hk3 : Hid (SeqAt 1 IntAt w lo (.slice a7 X.vKids.length c7) X.vKids) := s3
      have hrow' : Hid (RowIs wr g (j * 6) C 91 [.int .i64 X.vId, .string X.vTag, .int .i64 X.vParent, .slice a7 X.vKids.length c7, .int .i64 X.vWrapper, .slice a8 X.vListeners.length c8]) := hrow
      have hlt' : (j : Int) < (x.vNodes.length : Int) := by omega
      have hj0 : (0 : Int) ≤ (j : Int) := by omega
      have cA2 := bxr.out.cell 2 rfl
      clear s3 s5 hcL0 hrow hclose hcl rI rT rP rW hsX hbr
      clear hf
      · go_wp2_with fail
        refine wp_region_held_drew (S := fun w' => w'.cell? ⟨w.heap.size, 2, none⟩ = some (.slice (some ⟨g, 0, none⟩) x.vNodes.length d2)) (by kernel_rfl) (by assumption) (fun hHeld => ?_)
        refine tq (i := 0) (d := 15) ?_
        simp only [sz, ss]
        refine tq (i := 1) (d := 16) ?_
        simp only [sz, ss]
        refine tq (i := 2) (d := 17) ?_
        simp only [sz, ss]
        refine tq (i := 3) (d := 18) ?_
        simp only [sz, ss]
        refine tq (i := 4) (d := 19) ?_
        simp only [sz, ss]
        refine tq (i := 5) (d := 20) ?_
        simp only [sz, ss]
        refine tq (i := 6) (d := 21) ?_
        simp only [sz, ss]
        refine tq (i := 7) (d := 22) ?_
        simp only [sz, ss]
        refine wpAnyH_ready (rs := [8]) (by kernel_rfl) (by simp) ?_
        refine AllReadyH.cons rfl (fun K hK => ?_) AllReadyH.nil
        have ld : wr.drew.cell? ⟨g, j * 6 + 3, none⟩ = some (.slice a7 X.vKids.length c7) := hrow'.out.cell 3 rfl
        go_simp
        clear ld
        refine hK.out _ _ hHeld (fun hHeld => ?_)
        clear hK K
        refine wpAnyH_ready (rs := [9]) (by kernel_rfl) (by simp) ?_
        refine AllReadyH.cons rfl (fun K hK => ?_) AllReadyH.nil
        go_simp
        refine (listCopyI_any (by exact hk3.out.below intAt_stays (hwr.out.trans (Below.drew (Below.refl _ _)))) hl3).mono ?_
        rintro e u1 ⟨⟨v3, rfl, f3, hs3, nd3, lo3⟩, hq1⟩
        have hu1 : Hid (Below wr.heap.size wr u1) := undrew hq1
        have lo3' : Hid (∀ b ∈ f3, wr.heap.size ≤ b) := fun b qq => by have := lo3 b qq; simpa using this
        have hs3' : Hid (SeqOwn 1 IntOwn u1 v3 X.vKids f3) := hs3
        obtain ⟨p3, d3, rfl⟩ := hs3.form
        have row1 : Hid (RowIs u1 g (j * 6) C 91 [.int .i64 X.vId, .string X.vTag, .int .i64 X.vParent, .slice a7 X.vKids.length c7, .int .i64 X.vWrapper, .slice a8 X.vListeners.length c8]) := hrow'.out.below hu1.out
        have nd3' : Hid f3.Nodup := nd3
        clear hs3 lo3 nd3
        refine hK.out _ _ (cell_on hq1 hHeld) (fun hHeld => ?_)
        clear hK K
        refine tq (i := 10) (d := 25) ?_
        simp only [sz, ss]
        refine tq (i := 11) (d := 26) ?_
        simp only [sz, ss]
        refine wpAnyH_ready (rs := [12]) (by kernel_rfl) (by simp) ?_
        refine AllReadyH.cons rfl (fun K hK => ?_) AllReadyH.nil
        have sz := row1.out.cell 3 rfl
        have fz := row1.out.unfrozen
        go_simp
        clear sz fz
        refine hK.out _ _ (cell_set hHeld (by omega) _) (fun hHeld => ?_)
        clear hK K
        refine wpAnyH_done (by kernel_rfl) ?_ _
        have row1s : Hid (RowIs (u1.setCell ⟨g, j * 6 + 3, none⟩ (.slice p3 X.vKids.length d3)) g (j * 6) C 91 [.int .i64 X.vId, .string X.vTag, .int .i64 X.vParent, .slice p3 X.vKids.length d3, .int .i64 X.vWrapper, .slice a8 X.vListeners.length c8]) := RowIs.set (m := 3) row1.out (by simp) _
        have o1 : Hid (Out [g] wr (u1.setCell ⟨g, j * 6 + 3, none⟩ (.slice p3 X.vKids.length d3))) := Out.set (Out.of_below hu1.out) List.mem_cons_self _
        have hwu : Hid (Below w.heap.size w (u1.setCell ⟨g, j * 6 + 3, none⟩ (.slice p3 X.vKids.length d3))) := hwr.out.trans (o1.out.below (by omega) (by simp; omega))
        have bU : Box (u1.setCell ⟨g, j * 6 + 3, none⟩ (.slice p3 X.vKids.length d3)) w.heap.size [.int .i64 x.vNext, .int .i64 x.vDoc, .slice (some ⟨g, 0, none⟩) x.vNodes.length d2, .slice a3 x.vObjs.length c3, .slice a4 x.vGlobals.length c4] 32 := (o1.out.keep bxr.out.lt (by simp; omega)).trans bxr.out
        have cU2 := bU.cell 2 rfl
        clear bU
        go_wp2_with fail
        refine wp_region_held_drew (S := fun w' => w'.cell? ⟨w.heap.size, 2, none⟩ = some (.slice (some ⟨g, 0, none⟩) x.vNodes.length d2)) (by kernel_rfl) (by assumption) (fun hHeld => ?_)
        refine tq (i := 0) (d := 27) ?_
        simp only [sz, ss]
        refine tq (i := 1) (d := 28) ?_
        simp only [sz, ss]
        refine tq (i := 2) (d := 29) ?_
        simp only [sz, ss]
        refine tq (i := 3) (d := 30) ?_
        simp only [sz, ss]
        refine tq (i := 4) (d := 31) ?_
        simp only [sz, ss]
        refine tq (i := 5) (d := 32) ?_
        simp only [sz, ss]
        refine tq (i := 6) (d := 33) ?_
        simp only [sz, ss]
        refine tq (i := 7) (d := 34) ?_
        simp only [sz, ss]
        refine wpAnyH_ready (rs := [8]) (by kernel_rfl) (by simp) ?_
        refine AllReadyH.cons rfl (fun K hK => ?_) AllReadyH.nil
        have ld : (u1.setCell ⟨g, j * 6 + 3, none⟩ (.slice p3 X.vKids.length d3)).drew.cell? ⟨g, j * 6 + 5, none⟩ = some (.slice a8 X.vListeners.length c8) := row1s.out.cell 5 rfl
        go_simp
        clear ld
        refine hK.out _ _ hHeld (fun hHeld => ?_)
        clear hK K
        refine wpAnyH_ready (rs := [9]) (by kernel_rfl) (by simp) ?_
        refine AllReadyH.cons rfl (fun K hK => ?_) AllReadyH.nil
        go_simp
        refine (listCopyListener_any (R := fun _ => ListenerAt w) (by exact hcL.out.on (hwu.out.drew)) (by exact Listener_css (hcL.out.on hwu.out.drew)) hl5).mono ?_
        rintro e u2 ⟨⟨v5, rfl, hown5⟩, hq2⟩
        have hu2 : Hid (Below (u1.setCell ⟨g, j * 6 + 3, none⟩ (.slice p3 X.vKids.length d3)).heap.size (u1.setCell ⟨g, j * 6 + 3, none⟩ (.slice p3 X.vKids.length d3)) u2) := undrew hq2
        have hown5' : Hid (u2.ownsRow (u1.setCell ⟨g, j * 6 + 3, none⟩ (.slice p3 X.vKids.length d3)).heap.size 127 5 v5 X.vListeners.length css5.flatten) := hown5
        obtain ⟨p5, d5, rfl⟩ : ∃ a cap, v5 = .slice a X.vListeners.length cap := row_form2 hown5
        have row2 : Hid (RowIs u2 g (j * 6) C 91 [.int .i64 X.vId, .string X.vTag, .int .i64 X.vParent, .slice p3 X.vKids.length d3, .int .i64 X.vWrapper, .slice a8 X.vListeners.length c8]) := row1s.out.below hu2.out
        clear hown5
        refine hK.out _ _ (cell_on hq2 hHeld) (fun hHeld => ?_)
        clear hK K
        refine tq (i := 10) (d := 37) ?_
        simp only [sz, ss]
        refine tq (i := 11) (d := 38) ?_
        simp only [sz, ss]
        refine wpAnyH_ready (rs := [12]) (by kernel_rfl) (by simp) ?_
        refine AllReadyH.cons rfl (fun K hK => ?_) AllReadyH.nil
        have sz := row2.out.cell 5 rfl
        have fz := row2.out.unfrozen
        go_simp
        clear sz fz
        refine hK.out _ _ (cell_set hHeld (by omega) _) (fun hHeld => ?_)
        clear hK K
        refine wpAnyH_done (by kernel_rfl) ?_ _
        have row2s : Hid (RowIs (u2.setCell ⟨g, j * 6 + 5, none⟩ (.slice p5 X.vListeners.length d5)) g (j * 6) C 91 [.int .i64 X.vId, .string X.vTag, .int .i64 X.vParent, .slice p3 X.vKids.length d3, .int .i64 X.vWrapper, .slice p5 X.vListeners.length d5]) := RowIs.set (m := 5) row2.out (by simp) _
        have o2 : Hid (Out [g] wr (u2.setCell ⟨g, j * 6 + 5, none⟩ (.slice p5 X.vListeners.length d5))) := Out.set (Out.trans o1.out (Out.of_below hu2.out)) List.mem_cons_self _
        have hfin : Hid (∃ fs, NodeOwn (u2.setCell ⟨g, j * 6 + 5, none⟩ (.slice p5 X.vListeners.length d5)) [.int .i64 X.vId, .string X.vTag, .int .i64 X.vParent, .slice p3 X.vKids.length d3, .int .i64 X.vWrapper, .slice p5 X.vListeners.length d5] X fs ∧ (∀ b ∈ fs, wr.heap.size ≤ b) ∧ (∀ b ∈ fs, b < (u2.setCell ⟨g, j * 6 + 5, none⟩ (.slice p5 X.vListeners.length d5)).heap.size) ∧ fs.Nodup) := by
          have hz1 : (u1.setCell ⟨g, j * 6 + 3, none⟩ (.slice p3 X.vKids.length d3)).heap.size = u1.heap.size := set_size ..
          have hz2 : (u2.setCell ⟨g, j * 6 + 5, none⟩ (.slice p5 X.vListeners.length d5)).heap.size = u2.heap.size := set_size ..
          have h12 := hu2.out.size
          have h01 := hu1.out.size
          have hlt3 := SeqOwn.lt intOwn_lt hs3'.out
          have q3 : SeqOwn 1 IntOwn (u2.setCell ⟨g, j * 6 + 5, none⟩ (.slice p5 X.vListeners.length d5)) (.slice p3 X.vKids.length d3) X.vKids f3 := hs3'.out.stays intOwn_stays (fun b qq => by
            have l1 := lo3'.out b qq
            have l2 := hlt3 b qq
            rw [set_other (by omega), hu2.out.block b (by omega), set_other (by omega)])
          have r5 : (u2.setCell ⟨g, j * 6 + 5, none⟩ (.slice p5 X.vListeners.length d5)).ownsRow (u1.setCell ⟨g, j * 6 + 3, none⟩ (.slice p3 X.vKids.length d3)).heap.size 127 5 (.slice p5 X.vListeners.length d5) X.vListeners.length css5.flatten := row_keep2 hown5'.out (fun k e => set_other (by have := own_block2 hown5'.out k e; omega) _)
          obtain ⟨f5, q5, lo5⟩ := seqOwn_of_css (O := ListenerOwn) hcL.out r5 (fun cs y => listener_own2 cs y)
          have hlt5 := SeqOwn.lt ListenerOwn_lt q5
          refine ⟨f3 ++ f5, ⟨_, _, f3, f5, rfl, q3, q5, hrX.out.1, hrX.out.2.1, hrX.out.2.2.1, hrX.out.2.2.2, rfl⟩, fun b qq => ?_, fun b qq => ?_, nodup_two nd3'.out q5.nodup hlt3 (fun b qq => by have := lo5 b qq; omega)⟩
          · rcases List.mem_append.1 qq with r | r
            · exact lo3'.out b r
            · have := lo5 b r; omega
          · rcases List.mem_append.1 qq with r | r
            · have := hlt3 b r; omega
            · exact hlt5 b r
        clear row1 row2 row1s hu1 hu2 o1 hs3' lo3' nd3' hown5' hcL
        go_wp2_with fail
        go_roundw
        case rel =>
          obtain ⟨fs, n1, n2, n3, n4⟩ := hfin.out
          exact ⟨j + 1, by omega, by go_num, hclose'.out _ _ fs rfl row2s.out o2.out n1 n2 n3 n4⟩
        case measure => simp [intOf]; omega
    · obtain rfl : j = x.vNodes.length := by omega
      obtain ⟨f2, hso2, hlo2⟩ := hf.out.done (by unfold maxLen; omega)
      have hso2' : Hid (SeqOwn 6 NodeOwn wr (.slice p2 x.vNodes.length d2) x.vNodes f2) := hso2
      have hlo2' : Hid (∀ b ∈ f2, w.heap.size + 2 ≤ b) := hlo2
      have cA2 := bxr.out.cell 2 rfl
      have cA3 := bxr.out.cell 3 rfl
      have fA := bxr.out.unfrozen
      clear hso2 hlo2 hf hbr hfv bxS bzS hBS
      go_wp2_with fail
      refine (listCopyObj_any (R := fun _ => ObjAt w) (by exact hcO.out.on hwr.out) (by exact Obj_css (hcO.out.on hwr.out)) hl3o).mono ?_
      rintro e w2 ⟨⟨v3, rfl, hown3⟩, hb2⟩
      obtain ⟨p3, d3, rfl⟩ : ∃ a cap, v3 = .slice a x.vObjs.length cap := row_form2 hown3
      have hz2 : wr.heap.size ≤ w2.heap.size := hb2.size
      have bx2 : Box w2 w.heap.size [.int .i64 x.vNext, .int .i64 x.vDoc, .slice p2 x.vNodes.length d2, .slice a3 x.vObjs.length c3, .slice a4 x.vGlobals.length c4] 32 := bxr.out.below hb2 bxr.out.lt
      have bz2 : Hid (Box w2 (w.heap.size + 1) [.int .i64 0, .int .i64 0, .slice none 0 0, .slice none 0 0, .slice none 0 0] 32) := bzr.out.below hb2 bzr.out.lt
      have hfv0 : FillV 95 3 ObjOwn (ObjAt w lo) wr.heap.size w2 w2 (.slice p3 x.vObjs.length d3) x.vObjs 0 := FillV.start hz2 hown3 hcO.out.1 hcO.out.2.1 hcO.out.2.2.1
      have hfv2 : Hid (FillV 95 3 ObjOwn (ObjAt w lo) wr.heap.size (w2.setCell ⟨w.heap.size, 3, none⟩ (.slice p3 x.vObjs.length d3)) (w2.setCell ⟨w.heap.size, 3, none⟩ (.slice p3 x.vObjs.length d3)) (.slice p3 x.vObjs.length d3) x.vObjs 0) := hfv0.elder (fun b qq => set_other (by omega) _) (set_size ..)
      have bxS2 : Hid (Box (w2.setCell ⟨w.heap.size, 3, none⟩ (.slice p3 x.vObjs.length d3)) w.heap.size [.int .i64 x.vNext, .int .i64 x.vDoc, .slice p2 x.vNodes.length d2, .slice p3 x.vObjs.length d3, .slice a4 x.vGlobals.length c4] 32) := bx2.set (i := 3) _
      have bzS2 : Hid (Box (w2.setCell ⟨w.heap.size, 3, none⟩ (.slice p3 x.vObjs.length d3)) (w.heap.size + 1) [.int .i64 0, .int .i64 0, .slice none 0 0, .slice none 0 0, .slice none 0 0] 32) := bz2.out.other (by omega) _
      have hBS2 : Hid (Below w.heap.size w (w2.setCell ⟨w.heap.size, 3, none⟩ (.slice p3 x.vObjs.length d3))) := (hwr.out.trans (hb2.mono (by omega))).setCell (by simp) _
      have hso2s : Hid (SeqOwn 6 NodeOwn (w2.setCell ⟨w.heap.size, 3, none⟩ (.slice p3 x.vObjs.length d3)) (.slice p2 x.vNodes.length d2) x.vNodes f2) := hso2'.out.stays NodeOwn_stays (fun b qq => (set_other (by have := hlo2'.out b qq; omega) _).trans (hb2.block b (SeqOwn.lt NodeOwn_lt hso2'.out b qq)))
      have hlt2 : Hid (∀ b ∈ f2, b < wr.heap.size) := SeqOwn.lt NodeOwn_lt hso2'.out
      have cx3 := bx2.cell 3 rfl
      have fx3 := bx2.unfrozen
      have cS3 := bxS2.out.cell 3 rfl
      clear hown3 hb2 hfv0 cA2 cA3 fA hso2'
      go_wp2_with fail
      clear cx3 fx3 cS3 bx2 bz2 bxr bzr hwr
      generalize (w2.setCell ⟨w.heap.size, 3, none⟩ (.slice p3 x.vObjs.length d3)) = WT at hfv2 bxS2 bzS2 hBS2 hso2s
      generalize hzz : wr.heap.size = Z at hfv2 hlt2 hzr
      obtain ⟨wo, rfl⟩ : ∃ wo, wo = wr := ⟨wr, rfl⟩
      go_loopw [47] (fun i wr2 => ∃ (k : Nat), k ≤ x.vObjs.length ∧ i = .int .i64 k ∧ Hid (FillV 95 3 ObjOwn (ObjAt w lo) Z WT wr2 (.slice p3 x.vObjs.length d3) x.vObjs k)) (fun i _ => x.vObjs.length - (intOf i).toNat)
      case atStart => exact ⟨0, by omega, rfl, hfv2⟩
      case round =>
        obtain ⟨wr2, rfl⟩ : ∃ wr2, wr2 = wr := ⟨wr, rfl⟩
        obtain ⟨k, hk, rfl, hf2⟩ := hrel
        have hbr2 : Below Z WT wr2 := hf2.out.1
        have hzr2 : Z ≤ wr2.heap.size := hf2.out.2.1
        have bxr2 : Hid (Box wr2 w.heap.size [.int .i64 x.vNext, .int .i64 x.vDoc, .slice p2 x.vNodes.length d2, .slice p3 x.vObjs.length d3, .slice a4 x.vGlobals.length c4] 32) := bxS2.out.below hbr2 (by omega)
        have bzr2 : Hid (Box wr2 (w.heap.size + 1) [.int .i64 0, .int .i64 0, .slice none 0 0, .slice none 0 0, .slice none 0 0] 32) := bzS2.out.below hbr2 (by omega)
        have hwr2 : Hid (Below w.heap.size w wr2) := hBS2.out.trans (hbr2.mono (by omega))
        by_cases hlt2k : k < x.vObjs.length
        · obtain ⟨g2, C2, cs, rfl, hgb2, hgl2, hcl, hrow2, hO, hclose⟩ := hf2.out.turn ObjOwn_stays hlt2k
          have hsY := hsm.out.2.1.2 k hlt2k
          have hclose2' : Hid _ := hclose
          generalize x.vObjs[k] = Y at hO hsY hclose2'
          obtain ⟨k9, rfl, s9, rI, rN, _⟩ := hO
          have hl9 : Y.vFields.length ≤ 1048576 := hsY.1.1
          have hrY : Hid (InI Y.vId ∧ InI Y.vNode) := ⟨rI, rN⟩
          obtain ⟨a9, c9, rfl⟩ := s9.form
          obtain ⟨css9, hcF0⟩ := seq_css (by decide) s9
          have hcF : Hid (CssAt 2 FieldAt w lo a9 Y.vFields css9) := hcF0
          have hrow2' : Hid (RowIs wr2 g2 (k * 3) C2 95 [.int .i64 Y.vId, .int .i64 Y.vNode, .slice a9 Y.vFields.length c9]) := hrow2
          have hlt2' : (k : Int) < (x.vObjs.length : Int) := by omega
          have hk0 : (0 : Int) ≤ (k : Int) := by omega
          have cA3 := bxr2.out.cell 3 rfl
          clear s9 hcF0 hrow2 hclose hcl rI rN hsY hbr2 hf2
          go_wp2_with fail
          refine wp_region_held_drew (S := fun w' => w'.cell? ⟨w.heap.size, 3, none⟩ = some (.slice (some ⟨g2, 0, none⟩) x.vObjs.length d3)) (by kernel_rfl) (by assumption) (fun hHeld => ?_)
          refine tq (i := 0) (d := 50) ?_
          simp only [sz, ss]
          refine tq (i := 1) (d := 51) ?_
          simp only [sz, ss]
          refine tq (i := 2) (d := 52) ?_
          simp only [sz, ss]
          refine tq (i := 3) (d := 53) ?_
          simp only [sz, ss]
          refine tq (i := 4) (d := 54) ?_
          simp only [sz, ss]
          refine tq (i := 5) (d := 55) ?_
          simp only [sz, ss]
          refine tq (i := 6) (d := 56) ?_
          simp only [sz, ss]
          refine tq (i := 7) (d := 57) ?_
          simp only [sz, ss]
          refine wpAnyH_ready (rs := [8]) (by kernel_rfl) (by simp) ?_
          refine AllReadyH.cons rfl (fun K hK => ?_) AllReadyH.nil
          have ld : wr2.drew.cell? ⟨g2, k * 3 + 2, none⟩ = some (.slice a9 Y.vFields.length c9) := hrow2'.out.cell 2 rfl
          go_simp
          clear ld
          refine hK.out _ _ hHeld (fun hHeld => ?_)
          clear hK K
          refine wpAnyH_ready (rs := [9]) (by kernel_rfl) (by simp) ?_
          refine AllReadyH.cons rfl (fun K hK => ?_) AllReadyH.nil
          go_simp
          refine (listCopyField_any (R := fun _ => FieldAt w) (by exact hcF.out.on (hwr2.out.drew)) (by exact Field_css (hcF.out.on hwr2.out.drew)) hl9).mono ?_
          rintro e u3 ⟨⟨v9, rfl, hown9⟩, hq3⟩
          have hu3 : Hid (Below wr2.heap.size wr2 u3) := undrew hq3
          have hown9' : Hid (u3.ownsRow wr2.heap.size 102 2 v9 Y.vFields.length css9.flatten) := by have h5 := hown9; simpa [Hid] using h5
          obtain ⟨p9, d9, rfl⟩ : ∃ a cap, v9 = .slice a Y.vFields.length cap := row_form2 hown9
          have row3 : Hid (RowIs u3 g2 (k * 3) C2 95 [.int .i64 Y.vId, .int .i64 Y.vNode, .slice a9 Y.vFields.length c9]) := hrow2'.out.below hu3.out
          clear hown9
          refine hK.out _ _ (cell_on hq3 hHeld) (fun hHeld => ?_)
          clear hK K
          refine tq (i := 10) (d := 60) ?_
          simp only [sz, ss]
          refine tq (i := 11) (d := 61) ?_
          simp only [sz, ss]
          refine wpAnyH_ready (rs := [12]) (by kernel_rfl) (by simp) ?_
          refine AllReadyH.cons rfl (fun K hK => ?_) AllReadyH.nil
          have sz := row3.out.cell 2 rfl
          have fz := row3.out.unfrozen
          go_simp
          clear sz fz
          refine hK.out _ _ (cell_set hHeld (by omega) _) (fun hHeld => ?_)
          clear hK K
          refine wpAnyH_done (by kernel_rfl) ?_ _
          have row3s : Hid (RowIs (u3.setCell ⟨g2, k * 3 + 2, none⟩ (.slice p9 Y.vFields.length d9)) g2 (k * 3) C2 95 [.int .i64 Y.vId, .int .i64 Y.vNode, .slice p9 Y.vFields.length d9]) := RowIs.set (m := 2) row3.out (by simp) _
          have o3 : Hid (Out [g2] wr2 (u3.setCell ⟨g2, k * 3 + 2, none⟩ (.slice p9 Y.vFields.length d9))) := Out.set (Out.of_below hu3.out) List.mem_cons_self _
          have hfin2 : Hid (∃ fs, ObjOwn (u3.setCell ⟨g2, k * 3 + 2, none⟩ (.slice p9 Y.vFields.length d9)) [.int .i64 Y.vId, .int .i64 Y.vNode, .slice p9 Y.vFields.length d9] Y fs ∧ (∀ b ∈ fs, wr2.heap.size ≤ b) ∧ (∀ b ∈ fs, b < (u3.setCell ⟨g2, k * 3 + 2, none⟩ (.slice p9 Y.vFields.length d9)).heap.size) ∧ fs.Nodup) := by
            have r9 : (u3.setCell ⟨g2, k * 3 + 2, none⟩ (.slice p9 Y.vFields.length d9)).ownsRow wr2.heap.size 102 2 (.slice p9 Y.vFields.length d9) Y.vFields.length css9.flatten := row_keep2 hown9'.out (fun k e => set_other (by have := own_block2 hown9'.out k e; omega) _)
            obtain ⟨f9, q9, lo9⟩ := seqOwn_of_css (O := FieldOwn) hcF.out r9 (fun cs y => field_own2 cs y)
            exact ⟨f9, ⟨_, f9, rfl, q9, hrY.out.1, hrY.out.2, rfl⟩, lo9, SeqOwn.lt FieldOwn_lt q9, q9.nodup⟩
          clear row3 hu3 hown9' hcF
          go_wp2_with fail
          go_roundw
          case rel =>
            obtain ⟨fs, n1, n2, n3, n4⟩ := hfin2.out
            exact ⟨k + 1, by omega, by go_num, hclose2'.out _ _ fs rfl row3s.out o3.out n1 n2 n3 n4⟩
          case measure => simp [intOf]; omega
        · obtain rfl : k = x.vObjs.length := by omega
          obtain ⟨f3, hso3, hlo3⟩ := hf2.out.done (by unfold maxLen; omega)
          have hso3' : Hid (SeqOwn 3 ObjOwn wr2 (.slice p3 x.vObjs.length d3) x.vObjs f3) := hso3
          have hlo3' : Hid (∀ b ∈ f3, Z ≤ b) := hlo3
          have hso2w : Hid (SeqOwn 6 NodeOwn wr2 (.slice p2 x.vNodes.length d2) x.vNodes f2) := hso2s.out.stays NodeOwn_stays (fun b qq => hbr2.block b (hlt2.out b qq))
          have cA3 := bxr2.out.cell 3 rfl
          have cA4 := bxr2.out.cell 4 rfl
          have fA := bxr2.out.unfrozen
          clear hso3 hlo3 hf2 hbr2 hfv2 bxS2 bzS2 hBS2 hso2s
          go_wp2_with fail
          refine (listCopyField_any (R := fun _ => FieldAt w) (by exact hcG.out.on hwr2.out) (by exact Field_css (hcG.out.on hwr2.out)) hl4).mono ?_
          rintro e u4 ⟨⟨v4, rfl, hown4⟩, hb4⟩
          obtain ⟨p4, d4, rfl⟩ : ∃ a cap, v4 = .slice a x.vGlobals.length cap := row_form2 hown4
          have hown4' : Hid (u4.ownsRow wr2.heap.size 102 2 (.slice p4 x.vGlobals.length d4) x.vGlobals.length cssG.flatten) := hown4
          have hb4' : Hid (Below wr2.heap.size wr2 u4) := hb4
          have bx4 : Box u4 w.heap.size [.int .i64 x.vNext, .int .i64 x.vDoc, .slice p2 x.vNodes.length d2, .slice p3 x.vObjs.length d3, .slice a4 x.vGlobals.length c4] 32 := bxr2.out.below hb4 bxr2.out.lt
          have bz4 : Box u4 (w.heap.size + 1) [.int .i64 0, .int .i64 0, .slice none 0 0, .slice none 0 0, .slice none 0 0] 32 := bzr2.out.below hb4 bzr2.out.lt
          have bx5 : Box (u4.setCell ⟨w.heap.size, 4, none⟩ (.slice p4 x.vGlobals.length d4)) w.heap.size [.int .i64 x.vNext, .int .i64 x.vDoc, .slice p2 x.vNodes.length d2, .slice p3 x.vObjs.length d3, .slice p4 x.vGlobals.length d4] 32 := bx4.set (i := 4) _
          have bz5 : Box (u4.setCell ⟨w.heap.size, 4, none⟩ (.slice p4 x.vGlobals.length d4)) (w.heap.size + 1) [.int .i64 0, .int .i64 0, .slice none 0 0, .slice none 0 0, .slice none 0 0] 32 := bz4.other (by omega) _
          have x4 := bx4.cell 4 rfl
          have ux4 := bx4.unfrozen
          have e0 := bx5.cell 0 rfl
          have e1 := bx5.cell 1 rfl
          have e2 := bx5.cell 2 rfl
          have e3 := bx5.cell 3 rfl
          have e4 := bx5.cell 4 rfl
          have z0 := bz5.cell 0 rfl
          have z1 := bz5.cell 1 rfl
          have z2 := bz5.cell 2 rfl
          have z3 := bz5.cell 3 rfl
          have z4 := bz5.cell 4 rfl
          have uz := bz5.unfrozen
          have bF : Box ((((((u4.setCell ⟨w.heap.size, 4, none⟩ (.slice p4 x.vGlobals.length d4)).setCell ⟨w.heap.size + 1, 0, none⟩ (.int .i64 x.vNext)).setCell ⟨w.heap.size + 1, 1, none⟩ (.int .i64 x.vDoc)).setCell ⟨w.heap.size + 1, 2, none⟩ (.slice p2 x.vNodes.length d2)).setCell ⟨w.heap.size + 1, 3, none⟩ (.slice p3 x.vObjs.length d3)).setCell ⟨w.heap.size + 1, 4, none⟩ (.slice p4 x.vGlobals.length d4)) (w.heap.size + 1) [.int .i64 x.vNext, .int .i64 x.vDoc, .slice p2 x.vNodes.length d2, .slice p3 x.vObjs.length d3, .slice p4 x.vGlobals.length d4] 32 := ((((bz5.set (i := 0) _).set (i := 1) _).set (i := 2) _).set (i := 3) _).set (i := 4) _
          have hKF : Hid (∀ b, w.heap.size + 2 ≤ b → ((((((u4.setCell ⟨w.heap.size, 4, none⟩ (.slice p4 x.vGlobals.length d4)).setCell ⟨w.heap.size + 1, 0, none⟩ (.int .i64 x.vNext)).setCell ⟨w.heap.size + 1, 1, none⟩ (.int .i64 x.vDoc)).setCell ⟨w.heap.size + 1, 2, none⟩ (.slice p2 x.vNodes.length d2)).setCell ⟨w.heap.size + 1, 3, none⟩ (.slice p3 x.vObjs.length d3)).setCell ⟨w.heap.size + 1, 4, none⟩ (.slice p4 x.vGlobals.length d4)).heap[b]? = u4.heap[b]?) := fun b qq => by
            rw [set_other (by omega), set_other (by omega), set_other (by omega), set_other (by omega), set_other (by omega), set_other (by omega)]
          have hBF : Hid (Below w.heap.size w ((((((u4.setCell ⟨w.heap.size, 4, none⟩ (.slice p4 x.vGlobals.length d4)).setCell ⟨w.heap.size + 1, 0, none⟩ (.int .i64 x.vNext)).setCell ⟨w.heap.size + 1, 1, none⟩ (.int .i64 x.vDoc)).setCell ⟨w.heap.size + 1, 2, none⟩ (.slice p2 x.vNodes.length d2)).setCell ⟨w.heap.size + 1, 3, none⟩ (.slice p3 x.vObjs.length d3)).setCell ⟨w.heap.size + 1, 4, none⟩ (.slice p4 x.vGlobals.length d4))) := (((((((hwr2.out.trans (hb4.mono (by have := hwr2.out.size; omega))).setCell (by simp) _).setCell (by simp) _).setCell (by simp) _).setCell (by simp) _).setCell (by simp) _).setCell (by simp) _)
          have hans : Hid (AnsH w ((((((u4.setCell ⟨w.heap.size, 4, none⟩ (.slice p4 x.vGlobals.length d4)).setCell ⟨w.heap.size + 1, 0, none⟩ (.int .i64 x.vNext)).setCell ⟨w.heap.size + 1, 1, none⟩ (.int .i64 x.vDoc)).setCell ⟨w.heap.size + 1, 2, none⟩ (.slice p2 x.vNodes.length d2)).setCell ⟨w.heap.size + 1, 3, none⟩ (.slice p3 x.vObjs.length d3)).setCell ⟨w.heap.size + 1, 4, none⟩ (.slice p4 x.vGlobals.length d4)) [.int .i64 x.vNext, .int .i64 x.vDoc, .slice p2 x.vNodes.length d2, .slice p3 x.vObjs.length d3, .slice p4 x.vGlobals.length d4] x) := by
            have hz2r : Z ≤ wr2.heap.size := hzr2
            have hlt3 := SeqOwn.lt ObjOwn_lt hso3'.out
            have q2 := hso2w.out.stays (w' := ((((((u4.setCell ⟨w.heap.size, 4, none⟩ (.slice p4 x.vGlobals.length d4)).setCell ⟨w.heap.size + 1, 0, none⟩ (.int .i64 x.vNext)).setCell ⟨w.heap.size + 1, 1, none⟩ (.int .i64 x.vDoc)).setCell ⟨w.heap.size + 1, 2, none⟩ (.slice p2 x.vNodes.length d2)).setCell ⟨w.heap.size + 1, 3, none⟩ (.slice p3 x.vObjs.length d3)).setCell ⟨w.heap.size + 1, 4, none⟩ (.slice p4 x.vGlobals.length d4))) NodeOwn_stays (fun b qq => by have l1 := hlo2'.out b qq; have l2 := hlt2.out b qq; rw [hKF.out b l1, hb4'.out.block b (by omega)])
            have q3 := hso3'.out.stays (w' := ((((((u4.setCell ⟨w.heap.size, 4, none⟩ (.slice p4 x.vGlobals.length d4)).setCell ⟨w.heap.size + 1, 0, none⟩ (.int .i64 x.vNext)).setCell ⟨w.heap.size + 1, 1, none⟩ (.int .i64 x.vDoc)).setCell ⟨w.heap.size + 1, 2, none⟩ (.slice p2 x.vNodes.length d2)).setCell ⟨w.heap.size + 1, 3, none⟩ (.slice p3 x.vObjs.length d3)).setCell ⟨w.heap.size + 1, 4, none⟩ (.slice p4 x.vGlobals.length d4))) ObjOwn_stays (fun b qq => by have l1 := hlo3'.out b qq; have l2 := hlt3 b qq; rw [hKF.out b (by omega), hb4'.out.block b (by omega)])
            have r4 : ((((((u4.setCell ⟨w.heap.size, 4, none⟩ (.slice p4 x.vGlobals.length d4)).setCell ⟨w.heap.size + 1, 0, none⟩ (.int .i64 x.vNext)).setCell ⟨w.heap.size + 1, 1, none⟩ (.int .i64 x.vDoc)).setCell ⟨w.heap.size + 1, 2, none⟩ (.slice p2 x.vNodes.length d2)).setCell ⟨w.heap.size + 1, 3, none⟩ (.slice p3 x.vObjs.length d3)).setCell ⟨w.heap.size + 1, 4, none⟩ (.slice p4 x.vGlobals.length d4)).ownsRow wr2.heap.size 102 2 (.slice p4 x.vGlobals.length d4) x.vGlobals.length cssG.flatten := row_keep2 hown4'.out (fun k e => hKF.out k (by have := own_block2 hown4'.out k e; omega))
            obtain ⟨f4, q4, lo4⟩ := seqOwn_of_css (O := FieldOwn) hcG.out r4 (fun cs y => field_own2 cs y)
            refine ⟨f2 ++ f3 ++ f4, ⟨_, _, _, f2, f3, f4, rfl, q2, q3, q4, hrr.out.1, hrr.out.2, rfl⟩, nodup_two (q := wr2.heap.size) (nodup_two q2.nodup q3.nodup hlt2.out hlo3'.out) q4.nodup (fun b qq => ?_) lo4, fun b qq => ?_⟩
            · rcases List.mem_append.1 qq with r | r
              · have := hlt2.out b r; omega
              · exact hlt3 b r
            · rcases List.mem_append.1 qq with r | r
              · rcases List.mem_append.1 r with r2 | r2
                · have := hlo2'.out b r2; omega
                · have := hlo3'.out b r2; omega
              · have := lo4 b r; omega
          have g0 := bF.cell 0 rfl
          have g1 := bF.cell 1 rfl
          have g2' := bF.cell 2 rfl
          have g3 := bF.cell 3 rfl
          have g4 := bF.cell 4 rfl
          clear hown4 hb4 bF hKF hso3' hso2w hown4' hb4' hlo3' cA3 cA4 fA
          go_wp2_with fail
          refine bodyPost_ret (v := .agg #[.int .i64 x.vNext, .int .i64 x.vDoc, .slice p2 x.vNodes.length d2, .slice p3 x.vObjs.length d3, .slice p4 x.vGlobals.length d4]) (by simp [results, Tryz.results70, go_sem, g0, g1, g2', g3, g4]) rfl ?_
          exact ⟨⟨[.int .i64 x.vNext, .int .i64 x.vDoc, .slice p2 x.vNodes.length d2, .slice p3 x.vObjs.length d3, .slice p4 x.vGlobals.length d4], rfl, hans.out⟩, hBF.out⟩
end Go.Proofs.YtnonfehmbabfhaaGreat
