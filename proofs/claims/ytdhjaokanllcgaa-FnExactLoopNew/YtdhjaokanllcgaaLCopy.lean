/- Lists of records copied by the program, walked: a row of its own with the same cells. -/
import Derived.Test.YtdhjaokanllcgaaAppendRows
import Derived.Test.YtdhjaokanllcgaaListCopy
import Derived.Test.YtdhjaokanllcgaaOwnRecs
namespace Go.Proofs.Ytdhjaokanllcgaa
open Go.RowKit
/-- cells of a row, read in an elder world -/
theorem CssAt.on {α : Type} {c : Nat} {R : World → Nat → List Value → α → Prop} {w w' : World} {lo : Nat} {a : Option Addr} {xs : List α} {css : List (List Value)} (h : CssAt c R w lo a xs css) (hb : Below w.heap.size w w') : CssAt c (fun _ => R w) w' lo a xs css := by
  obtain ⟨k1, k2, k3, k4, k5⟩ := h
  exact ⟨k1, k2, k3, k4, fun ad e j u hu => cell_on hb (k5 ad e j u hu)⟩
theorem Node_one {w : World} {lo : Nat} {cs : List Value} {x : NodeD} (h : NodeAt w lo cs x) : ∀ u ∈ cs, u.oneCell' = true := by
  obtain ⟨k3, k5, rfl, s3, s5, _⟩ := h
  obtain ⟨a3, c3, rfl⟩ := s3.form
  obtain ⟨a5, c5, rfl⟩ := s5.form
  intro u hu
  simp only [List.mem_cons, List.not_mem_nil, or_false] at hu
  rcases hu with rfl | rfl | rfl | rfl | rfl | rfl <;> rfl
theorem Node_css {w : World} {lo : Nat} {a : Option Addr} {xs : List NodeD} {css : List (List Value)} {w0 : World} (h : CssAt 6 (fun _ => NodeAt w0) w lo a xs css) : ∀ cs ∈ css, ∀ u ∈ cs, u.oneCell' = true := fun cs hc => by
  obtain ⟨i, hi, rfl⟩ := List.mem_iff_getElem.1 hc
  exact Node_one (h.2.2.1 i hi (by have := h.1; omega))
theorem infoNodeC : ∃ i, Try.prog.info? 81 = some i ∧ i.zero = some (.agg #[.int .i64 0, .string ByteArray.empty, .int .i64 0, .slice none 0 0, .int .i64 0, .slice none 0 0]) ∧ i.size = 6 ∧ i.bytes = 88 := info_parts2 (by kernel_rfl)
set_option maxHeartbeats 1000000 in
theorem listCopyNode_any {α : Type} {R : World → Nat → List Value → α → Prop} {w : World} {lo : Nat} {a : Option Addr} {cap : Nat} {xs : List α} {css : List (List Value)} (hk : CssAt 6 R w lo a xs css) (hone : ∀ cs ∈ css, ∀ u ∈ cs, u.oneCell' = true) (hl : xs.length ≤ 1048576) :
    Calls Try.prog 70 #[.slice a xs.length cap] w fun e w' => (∃ v, e = .returned v ∧ w'.ownsRow w.heap.size 81 6 v xs.length css.flatten) ∧ Below w.heap.size w w' := by
  obtain ⟨iT, hiT0, heT0⟩ := infoNodeC
  have hiT : Hid (Try.prog.info? 81 = some iT) := hiT0
  have heT : Hid (iT.zero = some (.agg #[.int .i64 0, .string ByteArray.empty, .int .i64 0, .slice none 0 0, .int .i64 0, .slice none 0 0]) ∧ iT.size = 6 ∧ iT.bytes = 88) := heT0
  have hk' : Hid (CssAt 6 R w lo a xs css) := hk
  have hone' : Hid (∀ cs ∈ css, ∀ u ∈ cs, u.oneCell' = true) := hone
  clear hiT0 heT0 hk hone
  cases a with
  | none =>
    obtain rfl := hk'.out.2.2.2.1 rfl
    have hcs : Hid (css = []) := List.eq_nil_of_length_eq_zero (by simpa using hk'.out.1)
    go_enter Try.func70, Try.ntmps70
    go_wp2_with (at_builtin; refine wpList_append_none2 rfl _ _ 37 81 iT rfl Try.underlying37 hiT.out rfl none cap rfl ?_)
    go_ret
    exact ⟨⟨_, rfl, by rw [hcs.out]; exact World.ownsRow_nil _ _ _ _⟩, Below.refl _ _⟩
  | some ad =>
    go_enter Try.func70, Try.ntmps70
    go_wp2_with (at_builtin; refine wpList_append_own_at _ rfl _ _ 37 rfl w.heap.size 81 iT _ 6 88 Try.underlying37 hiT.out heT.out.1 heT.out.2.1 heT.out.2.2 rfl (by decide) _ 0 [] rfl (World.ownsRow_nil _ _ _ _) ad xs.length cap css.flatten rfl (by rw [css_len hk'.out.2.1, hk'.out.1]) (hk'.out.2.2.2.2 ad rfl) (fun u hu => by obtain ⟨cs, hcs, hu2⟩ := List.mem_flatten.1 hu; exact hone'.out cs hcs u hu2) (by unfold maxLen; omega) (by omega) (Nat.le_refl _) ?_; intro v w1 hown hgrow hnil hat)
    have hown' : Hid (w1.ownsRow w.heap.size 81 6 v (0 + xs.length) ([] ++ css.flatten)) := hown
    have hb1 : Hid (Below w.heap.size w w1) := (Below.refl _ _).grown hgrow (Nat.le_refl _) (fun k e => by cases e)
    clear hown hgrow hnil hat
    go_ret
    have ho := hown'.out
    rw [Nat.zero_add, List.nil_append] at ho
    exact ⟨⟨_, rfl, ho⟩, hb1.out⟩
theorem Obj_one {w : World} {lo : Nat} {cs : List Value} {x : ObjD} (h : ObjAt w lo cs x) : ∀ u ∈ cs, u.oneCell' = true := by
  obtain ⟨k2, rfl, s2, _⟩ := h
  obtain ⟨a2, c2, rfl⟩ := s2.form
  intro u hu
  simp only [List.mem_cons, List.not_mem_nil, or_false] at hu
  rcases hu with rfl | rfl | rfl <;> rfl
theorem Obj_css {w : World} {lo : Nat} {a : Option Addr} {xs : List ObjD} {css : List (List Value)} {w0 : World} (h : CssAt 3 (fun _ => ObjAt w0) w lo a xs css) : ∀ cs ∈ css, ∀ u ∈ cs, u.oneCell' = true := fun cs hc => by
  obtain ⟨i, hi, rfl⟩ := List.mem_iff_getElem.1 hc
  exact Obj_one (h.2.2.1 i hi (by have := h.1; omega))
theorem infoObjC : ∃ i, Try.prog.info? 100 = some i ∧ i.zero = some (.agg #[.int .i64 0, .int .i64 0, .slice none 0 0]) ∧ i.size = 3 ∧ i.bytes = 40 := info_parts2 (by kernel_rfl)
set_option maxHeartbeats 1000000 in
theorem listCopyObj_any {α : Type} {R : World → Nat → List Value → α → Prop} {w : World} {lo : Nat} {a : Option Addr} {cap : Nat} {xs : List α} {css : List (List Value)} (hk : CssAt 3 R w lo a xs css) (hone : ∀ cs ∈ css, ∀ u ∈ cs, u.oneCell' = true) (hl : xs.length ≤ 1048576) :
    Calls Try.prog 73 #[.slice a xs.length cap] w fun e w' => (∃ v, e = .returned v ∧ w'.ownsRow w.heap.size 100 3 v xs.length css.flatten) ∧ Below w.heap.size w w' := by
  obtain ⟨iT, hiT0, heT0⟩ := infoObjC
  have hiT : Hid (Try.prog.info? 100 = some iT) := hiT0
  have heT : Hid (iT.zero = some (.agg #[.int .i64 0, .int .i64 0, .slice none 0 0]) ∧ iT.size = 3 ∧ iT.bytes = 40) := heT0
  have hk' : Hid (CssAt 3 R w lo a xs css) := hk
  have hone' : Hid (∀ cs ∈ css, ∀ u ∈ cs, u.oneCell' = true) := hone
  clear hiT0 heT0 hk hone
  cases a with
  | none =>
    obtain rfl := hk'.out.2.2.2.1 rfl
    have hcs : Hid (css = []) := List.eq_nil_of_length_eq_zero (by simpa using hk'.out.1)
    go_enter Try.func73, Try.ntmps73
    go_wp2_with (at_builtin; refine wpList_append_none2 rfl _ _ 38 100 iT rfl Try.underlying38 hiT.out rfl none cap rfl ?_)
    go_ret
    exact ⟨⟨_, rfl, by rw [hcs.out]; exact World.ownsRow_nil _ _ _ _⟩, Below.refl _ _⟩
  | some ad =>
    go_enter Try.func73, Try.ntmps73
    go_wp2_with (at_builtin; refine wpList_append_own_at _ rfl _ _ 38 rfl w.heap.size 100 iT _ 3 40 Try.underlying38 hiT.out heT.out.1 heT.out.2.1 heT.out.2.2 rfl (by decide) _ 0 [] rfl (World.ownsRow_nil _ _ _ _) ad xs.length cap css.flatten rfl (by rw [css_len hk'.out.2.1, hk'.out.1]) (hk'.out.2.2.2.2 ad rfl) (fun u hu => by obtain ⟨cs, hcs, hu2⟩ := List.mem_flatten.1 hu; exact hone'.out cs hcs u hu2) (by unfold maxLen; omega) (by omega) (Nat.le_refl _) ?_; intro v w1 hown hgrow hnil hat)
    have hown' : Hid (w1.ownsRow w.heap.size 100 3 v (0 + xs.length) ([] ++ css.flatten)) := hown
    have hb1 : Hid (Below w.heap.size w w1) := (Below.refl _ _).grown hgrow (Nat.le_refl _) (fun k e => by cases e)
    clear hown hgrow hnil hat
    go_ret
    have ho := hown'.out
    rw [Nat.zero_add, List.nil_append] at ho
    exact ⟨⟨_, rfl, ho⟩, hb1.out⟩
theorem Field_one {w : World} {lo : Nat} {cs : List Value} {x : FieldD} (h : FieldAt w lo cs x) : ∀ u ∈ cs, u.oneCell' = true := by
  obtain ⟨rfl, _⟩ := h
  intro u hu
  simp only [List.mem_cons, List.not_mem_nil, or_false] at hu
  rcases hu with rfl | rfl <;> rfl
theorem Field_css {w : World} {lo : Nat} {a : Option Addr} {xs : List FieldD} {css : List (List Value)} {w0 : World} (h : CssAt 2 (fun _ => FieldAt w0) w lo a xs css) : ∀ cs ∈ css, ∀ u ∈ cs, u.oneCell' = true := fun cs hc => by
  obtain ⟨i, hi, rfl⟩ := List.mem_iff_getElem.1 hc
  exact Field_one (h.2.2.1 i hi (by have := h.1; omega))
theorem infoFieldC : ∃ i, Try.prog.info? 106 = some i ∧ i.zero = some (.agg #[.string ByteArray.empty, .int .i64 0]) ∧ i.size = 2 ∧ i.bytes = 24 := info_parts2 (by kernel_rfl)
set_option maxHeartbeats 1000000 in
theorem listCopyField_any {α : Type} {R : World → Nat → List Value → α → Prop} {w : World} {lo : Nat} {a : Option Addr} {cap : Nat} {xs : List α} {css : List (List Value)} (hk : CssAt 2 R w lo a xs css) (hone : ∀ cs ∈ css, ∀ u ∈ cs, u.oneCell' = true) (hl : xs.length ≤ 1048576) :
    Calls Try.prog 74 #[.slice a xs.length cap] w fun e w' => (∃ v, e = .returned v ∧ w'.ownsRow w.heap.size 106 2 v xs.length css.flatten) ∧ Below w.heap.size w w' := by
  obtain ⟨iT, hiT0, heT0⟩ := infoFieldC
  have hiT : Hid (Try.prog.info? 106 = some iT) := hiT0
  have heT : Hid (iT.zero = some (.agg #[.string ByteArray.empty, .int .i64 0]) ∧ iT.size = 2 ∧ iT.bytes = 24) := heT0
  have hk' : Hid (CssAt 2 R w lo a xs css) := hk
  have hone' : Hid (∀ cs ∈ css, ∀ u ∈ cs, u.oneCell' = true) := hone
  clear hiT0 heT0 hk hone
  cases a with
  | none =>
    obtain rfl := hk'.out.2.2.2.1 rfl
    have hcs : Hid (css = []) := List.eq_nil_of_length_eq_zero (by simpa using hk'.out.1)
    go_enter Try.func74, Try.ntmps74
    go_wp2_with (at_builtin; refine wpList_append_none2 rfl _ _ 39 106 iT rfl Try.underlying39 hiT.out rfl none cap rfl ?_)
    go_ret
    exact ⟨⟨_, rfl, by rw [hcs.out]; exact World.ownsRow_nil _ _ _ _⟩, Below.refl _ _⟩
  | some ad =>
    go_enter Try.func74, Try.ntmps74
    go_wp2_with (at_builtin; refine wpList_append_own_at _ rfl _ _ 39 rfl w.heap.size 106 iT _ 2 24 Try.underlying39 hiT.out heT.out.1 heT.out.2.1 heT.out.2.2 rfl (by decide) _ 0 [] rfl (World.ownsRow_nil _ _ _ _) ad xs.length cap css.flatten rfl (by rw [css_len hk'.out.2.1, hk'.out.1]) (hk'.out.2.2.2.2 ad rfl) (fun u hu => by obtain ⟨cs, hcs, hu2⟩ := List.mem_flatten.1 hu; exact hone'.out cs hcs u hu2) (by unfold maxLen; omega) (by omega) (Nat.le_refl _) ?_; intro v w1 hown hgrow hnil hat)
    have hown' : Hid (w1.ownsRow w.heap.size 106 2 v (0 + xs.length) ([] ++ css.flatten)) := hown
    have hb1 : Hid (Below w.heap.size w w1) := (Below.refl _ _).grown hgrow (Nat.le_refl _) (fun k e => by cases e)
    clear hown hgrow hnil hat
    go_ret
    have ho := hown'.out
    rw [Nat.zero_add, List.nil_append] at ho
    exact ⟨⟨_, rfl, ho⟩, hb1.out⟩
theorem Listener_one {w : World} {lo : Nat} {cs : List Value} {x : ListenerD} (h : ListenerAt w lo cs x) : ∀ u ∈ cs, u.oneCell' = true := by
  obtain ⟨rfl, _⟩ := h
  intro u hu
  simp only [List.mem_cons, List.not_mem_nil, or_false] at hu
  rcases hu with rfl | rfl | rfl | rfl | rfl <;> rfl
theorem Listener_css {w : World} {lo : Nat} {a : Option Addr} {xs : List ListenerD} {css : List (List Value)} {w0 : World} (h : CssAt 5 (fun _ => ListenerAt w0) w lo a xs css) : ∀ cs ∈ css, ∀ u ∈ cs, u.oneCell' = true := fun cs hc => by
  obtain ⟨i, hi, rfl⟩ := List.mem_iff_getElem.1 hc
  exact Listener_one (h.2.2.1 i hi (by have := h.1; omega))
theorem infoListenerC : ∃ i, Try.prog.info? 118 = some i ∧ i.zero = some (.agg #[.string ByteArray.empty, .bool false, .bool false, .int .i64 0, .string ByteArray.empty]) ∧ i.size = 5 ∧ i.bytes = 48 := info_parts2 (by kernel_rfl)
set_option maxHeartbeats 1000000 in
theorem listCopyListener_any {α : Type} {R : World → Nat → List Value → α → Prop} {w : World} {lo : Nat} {a : Option Addr} {cap : Nat} {xs : List α} {css : List (List Value)} (hk : CssAt 5 R w lo a xs css) (hone : ∀ cs ∈ css, ∀ u ∈ cs, u.oneCell' = true) (hl : xs.length ≤ 1048576) :
    Calls Try.prog 72 #[.slice a xs.length cap] w fun e w' => (∃ v, e = .returned v ∧ w'.ownsRow w.heap.size 118 5 v xs.length css.flatten) ∧ Below w.heap.size w w' := by
  obtain ⟨iT, hiT0, heT0⟩ := infoListenerC
  have hiT : Hid (Try.prog.info? 118 = some iT) := hiT0
  have heT : Hid (iT.zero = some (.agg #[.string ByteArray.empty, .bool false, .bool false, .int .i64 0, .string ByteArray.empty]) ∧ iT.size = 5 ∧ iT.bytes = 48) := heT0
  have hk' : Hid (CssAt 5 R w lo a xs css) := hk
  have hone' : Hid (∀ cs ∈ css, ∀ u ∈ cs, u.oneCell' = true) := hone
  clear hiT0 heT0 hk hone
  cases a with
  | none =>
    obtain rfl := hk'.out.2.2.2.1 rfl
    have hcs : Hid (css = []) := List.eq_nil_of_length_eq_zero (by simpa using hk'.out.1)
    go_enter Try.func72, Try.ntmps72
    go_wp2_with (at_builtin; refine wpList_append_none2 rfl _ _ 79 118 iT rfl Try.underlying79 hiT.out rfl none cap rfl ?_)
    go_ret
    exact ⟨⟨_, rfl, by rw [hcs.out]; exact World.ownsRow_nil _ _ _ _⟩, Below.refl _ _⟩
  | some ad =>
    go_enter Try.func72, Try.ntmps72
    go_wp2_with (at_builtin; refine wpList_append_own_at _ rfl _ _ 79 rfl w.heap.size 118 iT _ 5 48 Try.underlying79 hiT.out heT.out.1 heT.out.2.1 heT.out.2.2 rfl (by decide) _ 0 [] rfl (World.ownsRow_nil _ _ _ _) ad xs.length cap css.flatten rfl (by rw [css_len hk'.out.2.1, hk'.out.1]) (hk'.out.2.2.2.2 ad rfl) (fun u hu => by obtain ⟨cs, hcs, hu2⟩ := List.mem_flatten.1 hu; exact hone'.out cs hcs u hu2) (by unfold maxLen; omega) (by omega) (Nat.le_refl _) ?_; intro v w1 hown hgrow hnil hat)
    have hown' : Hid (w1.ownsRow w.heap.size 118 5 v (0 + xs.length) ([] ++ css.flatten)) := hown
    have hb1 : Hid (Below w.heap.size w w1) := (Below.refl _ _).grown hgrow (Nat.le_refl _) (fun k e => by cases e)
    clear hown hgrow hnil hat
    go_ret
    have ho := hown'.out
    rw [Nat.zero_add, List.nil_append] at ho
    exact ⟨⟨_, rfl, ho⟩, hb1.out⟩
end Go.Proofs.Ytdhjaokanllcgaa
