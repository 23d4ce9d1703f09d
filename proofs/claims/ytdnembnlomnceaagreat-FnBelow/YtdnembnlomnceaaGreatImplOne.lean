/- The program's tests on one node or object against its index, walked. -/
import Derived.Test.YtdnembnlomnceaaGreatHeap
import Derived.Test.YtdnembnlomnceaaGreatTakeMore
import Derived.WalkKit
import Derived.MapKept
import Derived.Test.YtdnembnlomnceaaGreatNameWalks
namespace Go.Proofs.YtdnembnlomnceaaGreat
open Go.RowKit
/-- the entries of a map are these records, in this order, each under its number -/
def Ents {α : Type} (f : α → Int) (R : World → Nat → List Value → α → Prop) (w : World) (lo : Nat) : List MapEntry → List α → Prop
 | [], [] => True
 | e :: es, x :: xs => e.key = .int .i64 (f x) ∧ (∃ cs, e.val = .agg cs.toArray ∧ R w lo cs x) ∧ Ents f R w lo es xs
 | _, _ => False
def MapAt {α : Type} (f : α → Int) (R : World → Nat → List Value → α → Prop) (w : World) (lo b : Nat) (xs : List α) : Prop :=
 ∃ (es : Array MapEntry) (clock : Nat), w.heap[b]? = some (.map es clock) ∧ Ents f R w lo es.toList xs
theorem Ents.keep {α : Type} {f : α → Int} {R : World → Nat → List Value → α → Prop} (hR : Stays R) {w w' : World} {lo lo' : Nat} (q : Kept w w' lo lo') : ∀ (es : List MapEntry) (xs : List α), Ents f R w lo es xs → Ents f R w' lo' es xs := by
 intro es
 induction es with
 | nil => intro xs h; cases xs with
  | nil => trivial
  | cons x xs => exact h.elim
 | cons e es ih => intro xs h; cases xs with
  | nil => exact h.elim
  | cons x xs =>
   obtain ⟨h1, ⟨cs, h2, h3⟩, h4⟩ := h
   exact ⟨h1, ⟨cs, h2, hR _ _ _ _ _ _ q h3⟩, ih xs h4⟩
theorem MapAt.below {α : Type} {f : α → Int} {R : World → Nat → List Value → α → Prop} (hR : Stays R) {w w' : World} {lo b : Nat} {xs : List α} (h : MapAt f R w lo b xs) (hb : Below w.heap.size w w') : MapAt f R w' lo b xs := by
 obtain ⟨es, clock, h1, h2⟩ := h
 have hlt : b < w.heap.size := (Array.getElem?_eq_some_iff.1 h1).1
 exact ⟨es, clock, (hb.block b hlt).trans h1, Ents.keep hR (.of_below hb) _ _ h2⟩
theorem MapAt.lt {α : Type} {f : α → Int} {R : World → Nat → List Value → α → Prop} {w : World} {lo b : Nat} {xs : List α} (h : MapAt f R w lo b xs) : b < w.heap.size := by
 obtain ⟨es, clock, h1, _⟩ := h
 exact (Array.getElem?_eq_some_iff.1 h1).1
theorem find_ents {α : Type} {f : α → Int} {R : World → Nat → List Value → α → Prop} {w : World} {lo : Nat} {id : Int} : ∀ (es : List MapEntry) (xs : List α) (j : Nat), Ents f R w lo es xs →
 (getI f xs id = none ∧ Instr.findNow (.int .i64) (.int .i64 id) es j = some none) ∨ ∃ x i cs, getI f xs id = some x ∧ Instr.findNow (.int .i64) (.int .i64 id) es j = some (some (i, .agg cs.toArray)) ∧ R w lo cs x := by
 intro es
 induction es with
 | nil => intro xs j h; cases xs with
  | nil => exact Or.inl ⟨rfl, rfl⟩
  | cons x xs => exact h.elim
 | cons e es ih => intro xs j h; cases xs with
  | nil => exact h.elim
  | cons x xs =>
   obtain ⟨h1, ⟨cs, h2, h3⟩, h4⟩ := h
   by_cases hq : f x = id
   · refine Or.inr ⟨x, j, cs, by simp [getI, hq], ?_, h3⟩
     simp [Instr.findNow, Instr.sameNow, h1, hq, h2]
   · have hq' : (id == f x) = false := by simpa using fun h : id = f x => hq h.symm
     rcases ih xs (j + 1) h4 with ⟨g1, g2⟩ | ⟨y, i, cs', g1, g2, g3⟩
     · refine Or.inl ⟨by simp [getI, hq, g1], ?_⟩
       simp [Instr.findNow, Instr.sameNow, h1, hq', g2]
     · refine Or.inr ⟨y, i, cs', by simp [getI, hq, g1], ?_, g3⟩
       simp [Instr.findNow, Instr.sameNow, h1, hq', g2]
theorem ents_length {α : Type} {f : α → Int} {R : World → Nat → List Value → α → Prop} {w : World} {lo : Nat} : ∀ (es : List MapEntry) (xs : List α), Ents f R w lo es xs → es.length = xs.length := by
 intro es
 induction es with
 | nil => intro xs h; cases xs with
  | nil => rfl
  | cons x xs => exact h.elim
 | cons e es ih => intro xs h; cases xs with
  | nil => exact h.elim
  | cons x xs => simp only [List.length_cons]; rw [ih xs h.2.2]
/-- A LOOKUP -/
theorem run_look {α : Type} {f : α → Int} {R : World → Nat → List Value → α → Prop} {w : World} {lo b : Nat} {xs : List α} {M E : TypeId} {z : Value} (hm : MapAt f R w lo b xs) (hT : Tryz.prog.underlying M = some (.map 2 E)) (hz : ((Tryz.prog.info? E).map fun i => i.zero) = some (some z)) (id : Int) :
 (getI f xs id = none ∧ (Instr.lookup M (.map (some b)) (.int .i64 id) true).run Tryz.prog w = .ok (.tuple #[z, .bool false]) w) ∨
 ∃ x cs, getI f xs id = some x ∧ (Instr.lookup M (.map (some b)) (.int .i64 id) true).run Tryz.prog w = .ok (.tuple #[.agg cs.toArray, .bool true]) w ∧ R w lo cs x := by
 obtain ⟨es, clock, h1, h2⟩ := hm
 obtain ⟨i, hi, hz⟩ := Option.map_eq_some_iff.1 hz
 have hc : ∀ e, (Instr.checkKey e 10000 2 (.int .i64 id)).run Tryz.prog w = .ok () w := fun e => MapKept.run_checkKey (k := .int .i64 id) Tryz.underlying2 (by simp [MapKept.IsKey]) e 9999
 rcases find_ents (id := id) es.toList xs 0 h2 with ⟨g1, g2⟩ | ⟨x, i', cs, g1, g2, g3⟩
 · refine Or.inl ⟨g1, ?_⟩
   simp [Instr.lookup, run_underlying hT, MapKept.run_getObj_map h1, hc, MapKept.run_findKey Tryz.underlying2 g2, Result.andThen, zeroValue, typeInfo, hi, hz]
 · refine Or.inr ⟨x, cs, g1, ?_, g3⟩
   simp [Instr.lookup, run_underlying hT, MapKept.run_getObj_map h1, hc, MapKept.run_findKey Tryz.underlying2 g2, Result.andThen]
/-- the world behind a new entry -/
def putEnt (w : World) (b : Nat) (es : Array MapEntry) (clock : Nat) (id : Int) (v : Value) : World := { w with heap := w.heap.setIfInBounds b (.map (es.push { key := .int .i64 id, val := v, born := clock }) (clock + 1)) }
theorem ents_snoc {α : Type} {f : α → Int} {R : World → Nat → List Value → α → Prop} {w : World} {lo : Nat} {e : MapEntry} {x : α} (h1 : e.key = .int .i64 (f x)) (h2 : ∃ cs, e.val = .agg cs.toArray ∧ R w lo cs x) : ∀ (es : List MapEntry) (xs : List α), Ents f R w lo es xs → Ents f R w lo (es ++ [e]) (xs ++ [x]) := by
 intro es
 induction es with
 | nil => intro xs h; cases xs with
  | nil => exact ⟨h1, h2, trivial⟩
  | cons y ys => exact h.elim
 | cons e' es ih => intro xs h; cases xs with
  | nil => exact h.elim
  | cons y ys => exact ⟨h.1, h.2.1, ih ys h.2.2⟩
theorem putEnt_size {w : World} {b : Nat} {es : Array MapEntry} {clock : Nat} {id : Int} {v : Value} : (putEnt w b es clock id v).heap.size = w.heap.size := by simp [putEnt]
theorem putEnt_other {w : World} {b b' : Nat} {es : Array MapEntry} {clock : Nat} {id : Int} {v : Value} (h : b' ≠ b) : (putEnt w b es clock id v).heap[b']? = w.heap[b']? := by
 unfold putEnt; rw [Array.getElem?_setIfInBounds, if_neg (fun e => h e.symm)]
theorem putEnt_at {w : World} {b : Nat} {es : Array MapEntry} {clock : Nat} {id : Int} {v : Value} (h : b < w.heap.size) : (putEnt w b es clock id v).heap[b]? = some (.map (es.push { key := .int .i64 id, val := v, born := clock }) (clock + 1)) := by
 unfold putEnt; rw [Array.getElem?_setIfInBounds, if_pos rfl, if_pos h]
theorem putEnt_below {B : Nat} {a w : World} {b : Nat} {es : Array MapEntry} {clock : Nat} {id : Int} {v : Value} (h : Below B a w) (hB : B ≤ b) : Below B a (putEnt w b es clock id v) :=
 ⟨h.os, h.tape, h.output, by rw [putEnt_size]; exact h.size, fun k hk => (putEnt_other (by omega)).trans (h.block k hk)⟩
end Go.Proofs.YtdnembnlomnceaaGreat
namespace Go.Proofs.YtdnembnlomnceaaGreat
open Go.RowKit
theorem has_of_find (xs : List Int) (v : Int) : ∀ j, decide (0 ≤ findI (fun x => x) xs v j) = hasB xs v := by
 induction xs with
 | nil => intro j; simp [findI, hasB]
 | cons x xs ih =>
  intro j
  by_cases e : x = v
  · simp [findI, hasB, e]
  · simp only [findI, if_neg e]; rw [ih]; simp [hasB, e]
set_option maxHeartbeats 400000 in
theorem slIndex_any {w : World} {lo : Nat} {k : Value} {xs : List Int} {id : Int} (hk : SeqAt 1 IntAt w lo k xs) :
 Calls Tryz.prog 96 #[k, .int .i64 id] w fun e w' => e = .returned (.int .i64 (findI (fun x => x) xs id 0)) ∧ w' = w := by
 obtain ⟨a, cap, rfl, hm, hx⟩ := hk
 unfold maxLen at hm
 have hx' : Hid _ := hx
 clear hx
 go_enter Tryz.func96, Tryz.ntmps96
 go_wp2_with fail
 go_loop [8] (fun i => ∃ (j : Nat), j ≤ xs.length ∧ i = .int .i64 j ∧ Hid (findI (fun x => x) xs id 0 = findI (fun x => x) (xs.drop j) id j)) (fun i => xs.length - (intOf i).toNat)
 case atStart => exact ⟨0, by omega, rfl, rfl⟩
 case round =>
  obtain ⟨j, hj, rfl, hrem⟩ := hrel
  by_cases hlt : j < xs.length
  · obtain ⟨b, off, rfl, hlo, hbw, hc⟩ := hx'.out (by omega)
    obtain ⟨cs, hcl, lie, hr⟩ := hc j hlt
    by_cases hq : xs[j] = id
    · have H2 : Hid _ := findI_hit (f := fun x => x) hlt hq
      generalize xs[j] = X at hr hq
      subst hq
      obtain ⟨rfl, hI⟩ := hr
      have z0 := lie 0 (by simp)
      simp only [List.getElem?_cons_zero, Nat.add_zero, Nat.mul_one] at z0
      clear lie hcl hx' hc
      go_wp2_with fail
      go_ret
      exact ⟨by rw [hrem.out, H2.out]; rfl, rfl⟩
    · have H2 : Hid _ := findI_miss (f := fun x => x) hlt hq
      generalize xs[j] = X at hr hq
      obtain ⟨rfl, hI⟩ := hr
      have z0 := lie 0 (by simp)
      simp only [List.getElem?_cons_zero, Nat.add_zero, Nat.mul_one] at z0
      have hq' : (id == X) = false := by simpa using fun e => hq e.symm
      clear lie hcl hx' hc hq
      go_wp2_with fail
      go_round
      case rel => exact ⟨j + 1, by omega, by go_num, by show _ = _; rw [hrem.out, H2.out]⟩
      case measure => simp [intOf]; omega
  · have H2 : Hid _ := findI_end (f := fun x => x) (id := id) hlt
    go_wp2_with fail
    go_ret
    exact ⟨by rw [hrem.out, H2.out]; rfl, rfl⟩
set_option maxHeartbeats 400000 in
theorem slContains_any {w : World} {lo : Nat} {k : Value} {xs : List Int} {id : Int} (hk : SeqAt 1 IntAt w lo k xs) :
 Calls Tryz.prog 70 #[k, .int .i64 id] w fun e w' => e = .returned (.bool (hasB xs id)) ∧ w' = w := by
 have H1 : Hid _ := has_of_find xs id 0
 go_enter Tryz.func70, Tryz.ntmps70
 go_wp2_with fail
 refine (slIndex_any hk).mono ?_
 rintro e w1 ⟨rfl, rfl⟩
 go_wp2_with fail
 go_ret
 exact ⟨ret_bool H1.out, rfl⟩
set_option maxHeartbeats 400000 in
theorem listenerOk_any {w : World} {lo : Nat} {cs : List Value} {x : ListenerD} (hx : ListenerAt w lo cs x) :
 Calls Tryz.prog 120 #[.agg cs.toArray] w fun e w' => e = .returned (.bool (lisB x)) ∧ Below w.heap.size w w' := by
 obtain ⟨rfl, rType, rStop, rName, _⟩ := hx
 have hb0 : Below w.heap.size w (w.alloc (.cells #[.string x.vType, .bool x.vCapture, .bool x.vOnce, .int .i64 x.vStop, .string x.vName] 89)) := (Below.refl _ _).alloc (Nat.le_refl _) _
 have rType' : Hid _ := rType
 have rName' : Hid _ := rName
 clear rType rName
 go_enter Tryz.func120, Tryz.ntmps120
 go_wp2_with fail
 refine (implNameOk_any _ _ rType'.out).mono ?_
 rintro e w1 ⟨rfl, rfl⟩
 cases h1 : nameB x.vType.data.toList
 · have H1 : Hid (lisB x = false) := by show _ = _; simp [lisB, nmB, h1]
   clear h1
   go_wp2_with fail
   go_ret
   exact ⟨ret_bool H1.out.symm, hb0⟩
 have H1 : Hid (nmB x.vType = true) := h1
 clear h1
 go_wp2_with fail
 refine (implNameOk_any _ _ rName'.out).mono ?_
 rintro e w1 ⟨rfl, rfl⟩
 cases h2 : nameB x.vName.data.toList
 · have H2 : Hid (lisB x = false) := by show _ = _; simp [lisB, nmB, h2]
   clear h2
   go_wp2_with fail
   go_ret
   exact ⟨ret_bool H2.out.symm, hb0⟩
 have H2 : Hid (lisB x = inB x.vStop 0 2) := by show _ = _; have := H1.out; simp [lisB, this]; simp [nmB, h2]
 clear h2
 by_cases h3 : 0 ≤ x.vStop
 · by_cases h4 : x.vStop ≤ 2
   · have H3 : Hid (lisB x = true) := by show _ = _; rw [H2.out]; simp [inB, h3, h4]
     go_wp2_with fail
     go_ret
     exact ⟨ret_bool H3.out.symm, hb0⟩
   · have H3 : Hid (lisB x = false) := by show _ = _; rw [H2.out]; simp [inB, h3, h4]
     go_wp2_with fail
     go_ret
     exact ⟨ret_bool (by rw [H3.out]; simp [h4]), hb0⟩
 · have H3 : Hid (lisB x = false) := by show _ = _; rw [H2.out]; simp [inB]; omega
   have h5 : decide (0 ≤ x.vStop) = false := by simpa using h3
   go_wp2_with fail
   go_ret
   exact ⟨ret_bool H3.out.symm, hb0⟩
end Go.Proofs.YtdnembnlomnceaaGreat
namespace Go.Proofs.YtdnembnlomnceaaGreat
open Go.RowKit
def IdxAt (w : World) (lo bn bo : Nat) (h : HeapD) : Prop := MapAt NodeD.vId NodeAt w lo bn h.vNodes ∧ MapAt ObjD.vId ObjAt w lo bo h.vObjs
theorem IdxAt.below {w w' : World} {lo bn bo : Nat} {h : HeapD} (hm : IdxAt w lo bn bo h) (hb : Below w.heap.size w w') : IdxAt w' lo bn bo h := ⟨hm.1.below NodeAt_stays hb, hm.2.below ObjAt_stays hb⟩
theorem zeroN : ((Tryz.prog.info? 73).map fun i => i.zero) = some (some (.agg #[.int .i64 0, .string ByteArray.empty, .int .i64 0, .slice none 0 0, .int .i64 0, .slice none 0 0])) := by kernel_rfl
theorem zeroO : ((Tryz.prog.info? 75).map fun i => i.zero) = some (some (.agg #[.int .i64 0, .int .i64 0, .slice none 0 0])) := by kernel_rfl
set_option maxHeartbeats 800000 in
theorem wrapperOk_any {w : World} {lo bn bo : Nat} {cs : List Value} {h : HeapD} {x : NodeD} (hm : IdxAt w lo bn bo h) (hx : NodeAt w lo cs x) :
 Calls Tryz.prog 102 #[.agg #[.map (some bn), .map (some bo)], .agg cs.toArray] w fun e w' => e = .returned (.bool (wrapB h x)) ∧ Below w.heap.size w w' := by
 obtain ⟨q3, q5, rfl, u3, u5, _⟩ := hx
 have hb0 : Below w.heap.size w ((w.alloc (.cells (List.toArray [.map (some bn), .map (some bo)]) 79)).alloc (.cells (List.toArray [.int .i64 x.vId, .string x.vTag, .int .i64 x.vParent, q3, .int .i64 x.vWrapper, q5]) 73)) := ((Below.refl _ _).alloc (Nat.le_refl _) _).alloc (by simp) _
 by_cases h0 : x.vWrapper = 0
 · have h1 : (x.vWrapper == 0) = true := by simpa using h0
   have HF : Hid (wrapB h x = true) := by show _ = _; simp [wrapB, h0]
   clear h0
   go_enter Tryz.func102, Tryz.ntmps102
   go_wp2_with fail
   go_ret
   exact ⟨ret_bool HF.out.symm, hb0⟩
 have h1 : (x.vWrapper == 0) = false := by simpa using h0
 rcases run_look (hm.2.below ObjAt_stays hb0) Tryz.underlying77 zeroO x.vWrapper with ⟨hg, hrun⟩ | ⟨y, cy, hg, hrun, hy⟩
 · have HF : Hid (wrapB h x = false) := by show _ = _; have hg' : objAt h x.vWrapper = none := hg; simp [wrapB, h0, hg']
   clear h0 hg
   go_enter Tryz.func102, Tryz.ntmps102
   go_wp2_with fail
   go_ret
   exact ⟨ret_bool HF.out.symm, hb0.alloc (by simp; omega) _⟩
 obtain ⟨g2, rfl, v2, _⟩ := hy
 obtain ⟨p2, c2, rfl⟩ := v2.form
 clear v2
 have hg' : objAt h x.vWrapper = some y := hg
 by_cases he : y.vNode = x.vId
 · have he' : (y.vNode == x.vId) = true := by simpa using he
   have HF : Hid (wrapB h x = true) := by show _ = _; simp [wrapB, h0, hg', he]
   clear h0 hg hg' he
   go_enter Tryz.func102, Tryz.ntmps102
   go_wp2_with fail
   go_ret
   exact ⟨ret_bool HF.out.symm, hb0.alloc (by simp; omega) _⟩
 · have he' : (y.vNode == x.vId) = false := by simpa using he
   have HF : Hid (wrapB h x = false) := by show _ = _; simp [wrapB, h0, hg', he]
   clear h0 hg hg' he
   go_enter Tryz.func102, Tryz.ntmps102
   go_wp2_with fail
   go_ret
   exact ⟨ret_bool HF.out.symm, hb0.alloc (by simp; omega) _⟩
set_option maxHeartbeats 800000 in
theorem parentOk_any {w : World} {lo bn bo : Nat} {cs : List Value} {h : HeapD} {x : NodeD} (hm : IdxAt w lo bn bo h) (hx : NodeAt w lo cs x) :
 Calls Tryz.prog 100 #[.agg #[.map (some bn), .map (some bo)], .agg cs.toArray] w fun e w' => e = .returned (.bool (parB h x)) ∧ Below w.heap.size w w' := by
 obtain ⟨q3, q5, rfl, u3, u5, _⟩ := hx
 have hb0 : Below w.heap.size w ((w.alloc (.cells (List.toArray [.map (some bn), .map (some bo)]) 79)).alloc (.cells (List.toArray [.int .i64 x.vId, .string x.vTag, .int .i64 x.vParent, q3, .int .i64 x.vWrapper, q5]) 73)) := ((Below.refl _ _).alloc (Nat.le_refl _) _).alloc (by simp) _
 by_cases h0 : x.vParent = 0
 · have h1 : (x.vParent == 0) = true := by simpa using h0
   have HF : Hid (parB h x = true) := by show _ = _; simp [parB, h0]
   clear h0
   go_enter Tryz.func100, Tryz.ntmps100
   go_wp2_with fail
   go_ret
   exact ⟨ret_bool HF.out.symm, hb0⟩
 have h1 : (x.vParent == 0) = false := by simpa using h0
 rcases run_look (hm.1.below NodeAt_stays hb0) Tryz.underlying76 zeroN x.vParent with ⟨hg, hrun⟩ | ⟨y, cy, hg, hrun, hy⟩
 · have HF : Hid (parB h x = false) := by show _ = _; have hg' : nodeAt h x.vParent = none := hg; simp [parB, h0, hg']
   clear h0 hg
   go_enter Tryz.func100, Tryz.ntmps100
   go_wp2_with fail
   go_ret
   exact ⟨ret_bool HF.out.symm, hb0.alloc (by simp; omega) _⟩
 obtain ⟨g3, g5, rfl, v3, v5, _⟩ := hy
 have v3' : Hid (SeqAt 1 IntAt _ lo g3 y.vKids) := v3
 obtain ⟨p3, c3, rfl⟩ := v3.form
 obtain ⟨p5, c5, rfl⟩ := v5.form
 clear v3 v5
 have hg' : nodeAt h x.vParent = some y := hg
 have HF : Hid (parB h x = hasB y.vKids x.vId) := by show _ = _; simp [parB, h0, hg']
 clear h0 hg hg'
 go_enter Tryz.func100, Tryz.ntmps100
 go_wp2_with fail
 refine (slContains_any (v3'.out.below intAt_stays ((Below.refl _ _).alloc (Nat.le_refl _) _))).mono ?_
 rintro e w1 ⟨rfl, rfl⟩
 go_wp2_with fail
 go_ret
 exact ⟨ret_bool HF.out.symm, hb0.alloc (by simp; omega) _⟩
set_option maxHeartbeats 800000 in
theorem wrappedOk_any {w : World} {lo bn bo : Nat} {cs : List Value} {h : HeapD} {x : ObjD} (hm : IdxAt w lo bn bo h) (hx : ObjAt w lo cs x) :
 Calls Tryz.prog 104 #[.agg #[.map (some bn), .map (some bo)], .agg cs.toArray] w fun e w' => e = .returned (.bool (oNodeB h x)) ∧ Below w.heap.size w w' := by
 obtain ⟨q2, rfl, u2, _⟩ := hx
 have hb0 : Below w.heap.size w ((w.alloc (.cells (List.toArray [.map (some bn), .map (some bo)]) 79)).alloc (.cells (List.toArray [.int .i64 x.vId, .int .i64 x.vNode, q2]) 75)) := ((Below.refl _ _).alloc (Nat.le_refl _) _).alloc (by simp) _
 by_cases h0 : x.vNode = 0
 · have h1 : (x.vNode == 0) = true := by simpa using h0
   have HF : Hid (oNodeB h x = true) := by show _ = _; simp [oNodeB, h0]
   clear h0
   go_enter Tryz.func104, Tryz.ntmps104
   go_wp2_with fail
   go_ret
   exact ⟨ret_bool HF.out.symm, hb0⟩
 have h1 : (x.vNode == 0) = false := by simpa using h0
 rcases run_look (hm.1.below NodeAt_stays hb0) Tryz.underlying76 zeroN x.vNode with ⟨hg, hrun⟩ | ⟨y, cy, hg, hrun, hy⟩
 · have HF : Hid (oNodeB h x = false) := by show _ = _; have hg' : nodeAt h x.vNode = none := hg; simp [oNodeB, h0, hg']
   clear h0 hg
   go_enter Tryz.func104, Tryz.ntmps104
   go_wp2_with fail
   go_ret
   exact ⟨ret_bool HF.out.symm, hb0.alloc (by simp; omega) _⟩
 obtain ⟨g3, g5, rfl, v3, v5, _⟩ := hy
 have v3' : Hid (SeqAt 1 IntAt _ lo g3 y.vKids) := v3
 obtain ⟨p3, c3, rfl⟩ := v3.form
 obtain ⟨p5, c5, rfl⟩ := v5.form
 clear v3 v5
 have hg' : nodeAt h x.vNode = some y := hg
 by_cases he : y.vWrapper = x.vId
 · have he' : (y.vWrapper == x.vId) = true := by simpa using he
   have HF : Hid (oNodeB h x = true) := by show _ = _; simp [oNodeB, h0, hg', he]
   clear h0 hg hg' he
   go_enter Tryz.func104, Tryz.ntmps104
   go_wp2_with fail
   go_ret
   exact ⟨ret_bool HF.out.symm, hb0.alloc (by simp; omega) _⟩
 · have he' : (y.vWrapper == x.vId) = false := by simpa using he
   have HF : Hid (oNodeB h x = false) := by show _ = _; simp [oNodeB, h0, hg', he]
   clear h0 hg hg' he
   go_enter Tryz.func104, Tryz.ntmps104
   go_wp2_with fail
   go_ret
   exact ⟨ret_bool HF.out.symm, hb0.alloc (by simp; omega) _⟩
end Go.Proofs.YtdnembnlomnceaaGreat
