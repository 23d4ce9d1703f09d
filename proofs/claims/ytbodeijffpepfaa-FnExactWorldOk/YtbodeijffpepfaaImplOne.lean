/- The program's tests on one node or object against its index, walked. -/
import Derived.Test.YtbodeijffpepfaaMapLaws
import Derived.Test.YtbodeijffpepfaaImplSmall
namespace Go.Proofs.Ytbodeijffpepfaa
open Go.RowKit
def IdxAt (w : World) (lo bn bo : Nat) (h : HeapD) : Prop := MapAt NodeD.vId NodeAt w lo bn h.vNodes ∧ MapAt ObjD.vId ObjAt w lo bo h.vObjs
theorem IdxAt.below {w w' : World} {lo bn bo : Nat} {h : HeapD} (hm : IdxAt w lo bn bo h) (hb : Below w.heap.size w w') : IdxAt w' lo bn bo h := ⟨hm.1.below NodeAt_stays hb, hm.2.below ObjAt_stays hb⟩
theorem zeroN : ((Try.prog.info? 69).map fun i => i.zero) = some (some (.agg #[.int .i64 0, .string ByteArray.empty, .int .i64 0, .slice none 0 0, .int .i64 0, .slice none 0 0])) := by kernel_rfl
theorem zeroO : ((Try.prog.info? 73).map fun i => i.zero) = some (some (.agg #[.int .i64 0, .int .i64 0, .slice none 0 0])) := by kernel_rfl
set_option maxHeartbeats 800000 in
theorem wrapperOk_any {w : World} {lo bn bo : Nat} {cs : List Value} {h : HeapD} {x : NodeD} (hm : IdxAt w lo bn bo h) (hx : NodeAt w lo cs x) :
    Calls Try.prog 71 #[.agg #[.map (some bn), .map (some bo)], .agg cs.toArray] w fun e w' => e = .returned (.bool (wrapB h x)) ∧ Below w.heap.size w w' := by
  obtain ⟨q3, q5, rfl, u3, u5, _⟩ := hx
  have hb0 : Below w.heap.size w ((w.alloc (.cells (List.toArray [.map (some bn), .map (some bo)]) 86)).alloc (.cells (List.toArray [.int .i64 x.vId, .string x.vTag, .int .i64 x.vParent, q3, .int .i64 x.vWrapper, q5]) 69)) := ((Below.refl _ _).alloc (Nat.le_refl _) _).alloc (by simp) _
  by_cases h0 : x.vWrapper = 0
  · have h1 : (x.vWrapper == 0) = true := by simpa using h0
    have HF : Hid (wrapB h x = true) := by show _ = _; simp [wrapB, h0]
    clear h0
    go_enter Try.func71, Try.ntmps71
    go_wp2_with fail
    go_ret
    exact ⟨ret_bool HF.out.symm, hb0⟩
  have h1 : (x.vWrapper == 0) = false := by simpa using h0
  rcases run_look (hm.2.below ObjAt_stays hb0) Try.underlying84 zeroO x.vWrapper with ⟨hg, hrun⟩ | ⟨y, cy, hg, hrun, hy⟩
  · have HF : Hid (wrapB h x = false) := by show _ = _; have hg' : objAt h x.vWrapper = none := hg; simp [wrapB, h0, hg']
    clear h0 hg
    go_enter Try.func71, Try.ntmps71
    go_wp2_with fail
    go_ret
    exact ⟨ret_bool HF.out.symm, hb0.alloc (by simp; omega) _⟩
  obtain ⟨g2, rfl, v2, _⟩ := hy
  obtain ⟨p2, c2, rfl⟩ := v2.form
  clear v2
  have hg' : objAt h x.vWrapper = some y := hg
  by_cases he : y.vNode = x.vId
  · have he' : (y.vNode == x.vId) = true := by simpa using he
    have HF : Hid (wrapB h x = true) := by show _ = _; simp [wrapB, h0, hg', he]
    clear h0 hg hg' he
    go_enter Try.func71, Try.ntmps71
    go_wp2_with fail
    go_ret
    exact ⟨ret_bool HF.out.symm, hb0.alloc (by simp; omega) _⟩
  · have he' : (y.vNode == x.vId) = false := by simpa using he
    have HF : Hid (wrapB h x = false) := by show _ = _; simp [wrapB, h0, hg', he]
    clear h0 hg hg' he
    go_enter Try.func71, Try.ntmps71
    go_wp2_with fail
    go_ret
    exact ⟨ret_bool HF.out.symm, hb0.alloc (by simp; omega) _⟩
set_option maxHeartbeats 800000 in
theorem parentOk_any {w : World} {lo bn bo : Nat} {cs : List Value} {h : HeapD} {x : NodeD} (hm : IdxAt w lo bn bo h) (hx : NodeAt w lo cs x) :
    Calls Try.prog 69 #[.agg #[.map (some bn), .map (some bo)], .agg cs.toArray] w fun e w' => e = .returned (.bool (parB h x)) ∧ Below w.heap.size w w' := by
  obtain ⟨q3, q5, rfl, u3, u5, _⟩ := hx
  have hb0 : Below w.heap.size w ((w.alloc (.cells (List.toArray [.map (some bn), .map (some bo)]) 86)).alloc (.cells (List.toArray [.int .i64 x.vId, .string x.vTag, .int .i64 x.vParent, q3, .int .i64 x.vWrapper, q5]) 69)) := ((Below.refl _ _).alloc (Nat.le_refl _) _).alloc (by simp) _
  by_cases h0 : x.vParent = 0
  · have h1 : (x.vParent == 0) = true := by simpa using h0
    have HF : Hid (parB h x = true) := by show _ = _; simp [parB, h0]
    clear h0
    go_enter Try.func69, Try.ntmps69
    go_wp2_with fail
    go_ret
    exact ⟨ret_bool HF.out.symm, hb0⟩
  have h1 : (x.vParent == 0) = false := by simpa using h0
  rcases run_look (hm.1.below NodeAt_stays hb0) Try.underlying83 zeroN x.vParent with ⟨hg, hrun⟩ | ⟨y, cy, hg, hrun, hy⟩
  · have HF : Hid (parB h x = false) := by show _ = _; have hg' : nodeAt h x.vParent = none := hg; simp [parB, h0, hg']
    clear h0 hg
    go_enter Try.func69, Try.ntmps69
    go_wp2_with fail
    go_ret
    exact ⟨ret_bool HF.out.symm, hb0.alloc (by simp; omega) _⟩
  obtain ⟨g3, g5, rfl, v3, v5, _⟩ := hy
  have v3' : Hid (SeqAt 1 IntAt _ lo g3 y.vKids) := v3
  obtain ⟨p3, c3, rfl⟩ := v3.form
  obtain ⟨p5, c5, rfl⟩ := v5.form
  clear v3 v5
  have hg' : nodeAt h x.vParent = some y := hg
  have HF : Hid (parB h x = hasB y.vKids x.vId) := by show _ = _; simp [parB, h0, hg']
  clear h0 hg hg'
  go_enter Try.func69, Try.ntmps69
  go_wp2_with fail
  refine (slContains_any (v3'.out.below intAt_stays ((Below.refl _ _).alloc (Nat.le_refl _) _))).mono ?_
  rintro e w1 ⟨rfl, rfl⟩
  go_wp2_with fail
  go_ret
  exact ⟨ret_bool HF.out.symm, hb0.alloc (by simp; omega) _⟩
set_option maxHeartbeats 800000 in
theorem wrappedOk_any {w : World} {lo bn bo : Nat} {cs : List Value} {h : HeapD} {x : ObjD} (hm : IdxAt w lo bn bo h) (hx : ObjAt w lo cs x) :
    Calls Try.prog 73 #[.agg #[.map (some bn), .map (some bo)], .agg cs.toArray] w fun e w' => e = .returned (.bool (oNodeB h x)) ∧ Below w.heap.size w w' := by
  obtain ⟨q2, rfl, u2, _⟩ := hx
  have hb0 : Below w.heap.size w ((w.alloc (.cells (List.toArray [.map (some bn), .map (some bo)]) 86)).alloc (.cells (List.toArray [.int .i64 x.vId, .int .i64 x.vNode, q2]) 73)) := ((Below.refl _ _).alloc (Nat.le_refl _) _).alloc (by simp) _
  by_cases h0 : x.vNode = 0
  · have h1 : (x.vNode == 0) = true := by simpa using h0
    have HF : Hid (oNodeB h x = true) := by show _ = _; simp [oNodeB, h0]
    clear h0
    go_enter Try.func73, Try.ntmps73
    go_wp2_with fail
    go_ret
    exact ⟨ret_bool HF.out.symm, hb0⟩
  have h1 : (x.vNode == 0) = false := by simpa using h0
  rcases run_look (hm.1.below NodeAt_stays hb0) Try.underlying83 zeroN x.vNode with ⟨hg, hrun⟩ | ⟨y, cy, hg, hrun, hy⟩
  · have HF : Hid (oNodeB h x = false) := by show _ = _; have hg' : nodeAt h x.vNode = none := hg; simp [oNodeB, h0, hg']
    clear h0 hg
    go_enter Try.func73, Try.ntmps73
    go_wp2_with fail
    go_ret
    exact ⟨ret_bool HF.out.symm, hb0.alloc (by simp; omega) _⟩
  obtain ⟨g3, g5, rfl, v3, v5, _⟩ := hy
  have v3' : Hid (SeqAt 1 IntAt _ lo g3 y.vKids) := v3
  obtain ⟨p3, c3, rfl⟩ := v3.form
  obtain ⟨p5, c5, rfl⟩ := v5.form
  clear v3 v5
  have hg' : nodeAt h x.vNode = some y := hg
  by_cases he : y.vWrapper = x.vId
  · have he' : (y.vWrapper == x.vId) = true := by simpa using he
    have HF : Hid (oNodeB h x = true) := by show _ = _; simp [oNodeB, h0, hg', he]
    clear h0 hg hg' he
    go_enter Try.func73, Try.ntmps73
    go_wp2_with fail
    go_ret
    exact ⟨ret_bool HF.out.symm, hb0.alloc (by simp; omega) _⟩
  · have he' : (y.vWrapper == x.vId) = false := by simpa using he
    have HF : Hid (oNodeB h x = false) := by show _ = _; simp [oNodeB, h0, hg', he]
    clear h0 hg hg' he
    go_enter Try.func73, Try.ntmps73
    go_wp2_with fail
    go_ret
    exact ⟨ret_bool HF.out.symm, hb0.alloc (by simp; omega) _⟩
end Go.Proofs.Ytbodeijffpepfaa
