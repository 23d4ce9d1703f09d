/- changeIn of the program: walked. -/
import Derived.Test.YtndffcogddefiaaEdRch
import Derived.Test.YtndffcogddefiaaEdInsIn
import Derived.Test.YtndffcogddefiaaEdSpec
namespace Go.Proofs.Ytndffcogddefiaa
open Go.RowKit Go.Deep
theorem seqAt_take {w : World} {lo cp : Nat} {ap : Option Addr} {path : List Int} (h : SeqAt 1 IntAt w lo (.slice ap path.length cp) path) {m : Nat} (hm : m ≤ path.length) : SeqAt 1 IntAt w lo (.slice ap m cp) (path.take m) := by
  obtain ⟨a, c, e, ⟨h1, h2⟩, hx⟩ := h
  injection e with e1 _ e3
  subst e1 e3
  have hl : (path.take m).length = m := by simp; omega
  refine ⟨ap, cp, by rw [hl], ⟨by omega, by omega⟩, fun h0 => ?_⟩
  obtain ⟨b, off, ha, q1, q2, hc⟩ := hx (by omega)
  refine ⟨b, off, ha, q1, q2, fun i hi => ?_⟩
  obtain ⟨cs, r1, r2, r3⟩ := hc i (by omega)
  exact ⟨cs, r1, r2, by simpa using r3⟩
theorem seqAt_cap {w : World} {lo cp : Nat} {ap : Option Addr} {path : List Int} (h : SeqAt 1 IntAt w lo (.slice ap path.length cp) path) : path.length ≤ cp := by
  obtain ⟨a, c, e, ⟨_, h2⟩, _⟩ := h
  injection e with _ _ e3
  omega
theorem asI (v : Value) (w : World) : (Instr.typeAssert (.iface 90 v) 51 90 true).run Try.prog w = .ok (.tuple #[v, .bool true]) w := by kernel_rfl
theorem asD (v : Value) (w : World) : (Instr.typeAssert (.iface 88 v) 51 88 true).run Try.prog w = .ok (.tuple #[v, .bool true]) w := by kernel_rfl
theorem asR (v : Value) (w : World) : (Instr.typeAssert (.iface 85 v) 51 85 true).run Try.prog w = .ok (.tuple #[v, .bool true]) w := by kernel_rfl
theorem noDI (v : Value) (w : World) : (Instr.typeAssert (.iface 88 v) 51 90 true).run Try.prog w = .ok (.tuple #[.agg #[.slice none 0 0, .string ⟨#[]⟩, .slice none 0 0], .bool false]) w := by kernel_rfl
theorem noRI (v : Value) (w : World) : (Instr.typeAssert (.iface 85 v) 51 90 true).run Try.prog w = .ok (.tuple #[.agg #[.slice none 0 0, .string ⟨#[]⟩, .slice none 0 0], .bool false]) w := by kernel_rfl
theorem noRD (v : Value) (w : World) : (Instr.typeAssert (.iface 85 v) 51 88 true).run Try.prog w = .ok (.tuple #[.agg #[.slice none 0 0], .bool false]) w := by kernel_rfl
/-- the change that leads back -/
def Back (w' : World) (bv : Value) (d : TD) (e : EditD) (kp : Value) (fs : List Nat) : Prop :=
  (e.vKind = 1 ∧ bv = .iface 88 (.agg #[kp])) ∨ (e.vKind = 2 ∧ okP d e.vPath = true ∧ ∃ (k1 : Value) (fi : List Nat) (n3 : Nat), bv = .iface 90 (.agg #[kp, .string (strT (endP d e.vPath)), k1]) ∧ TreeO n3 w' [.string (strT (endP d e.vPath)), k1] (endP d e.vPath) fi ∧ ∀ b ∈ fi, b ∈ fs) ∨ (e.vKind = 3 ∧ okP d e.vPath = true ∧ bv = .iface 85 (.agg #[kp, .string (strT (endP d e.vPath))]))
theorem Back.stays {w w' : World} {bv kp : Value} {d : TD} {e : EditD} {fs : List Nat} (h : Back w bv d e kp fs) (hk : ∀ b ∈ fs, w'.heap[b]? = w.heap[b]?) : Back w' bv d e kp fs := by
  rcases h with h | ⟨h1, h2, k1, fi, n3, h3, h4, h5⟩ | h
  · exact Or.inl h
  · exact Or.inr (Or.inl ⟨h1, h2, k1, fi, n3, h3, TreeO_stays n3 _ _ _ _ _ (fun b hb => hk b (h5 b hb)) h4, h5⟩)
  · exact Or.inr (Or.inr h)
/-- what changeIn answers -/
def ChR (w w' : World) (R : Nat) (C : Array Value) (fs : List Nat) (d : TD) (e : EditD) (kp : Value) (e1 : Ending) : Prop :=
  (∃ (y : TD) (bv : Value), putD e.vKind e.vTag e.vTree e.vPath d = some y ∧ e1 = .returned (.tuple #[bv, .bool true]) ∧ Back w' bv d e kp fs ∧ Turned w w' R C fs y ∧ Out (R :: fs) w w') ∨ (putD e.vKind e.vTag e.vTree e.vPath d = none ∧ e1 = .returned (.tuple #[.nilIface, .bool false]) ∧ Below w.heap.size w w')
theorem Turned.back {w w1 w' : World} {R : Nat} {C : Array Value} {fs : List Nat} {x : TD} (h : Turned w1 w' R C fs x) (hs : w.heap.size ≤ w1.heap.size) : Turned w w' R C fs x := by
  obtain ⟨cs3, fs3, n3, q1, q2, q3, q4, q5, q6⟩ := h
  exact ⟨cs3, fs3, n3, q1, q2, q3, q4, q5, fun b hb => (q6 b hb).imp id (fun q => Nat.le_trans hs q)⟩
theorem snoc_last {path : List Int} (h : 0 < path.length) : ∃ m p, path.length = m + 1 ∧ path = path.take m ++ [p] := by
  refine ⟨path.length - 1, path[path.length - 1], by omega, ?_⟩
  have q := List.take_succ_eq_append_getElem (l := path) (i := path.length - 1) (by omega)
  rw [List.take_of_length_le (by omega)] at q
  exact q
set_option maxRecDepth 100000 in
set_option maxHeartbeats 8000000 in
theorem changeIn_any {w : World} {n m R lo : Nat} {ap a : Option Addr} {cp c : Nat} {C : Array Value} {cs : List Value} {d : TD} {fs : List Nat} {e : EditD} (hrow0 : RowIs w R 0 C 26 cs) (hl0 : cs.length = 2) (htP : TreeP n w cs d fs) (hnd0 : fs.Nodup) (hb00 : R ∉ fs) (hRd : RightT d) (he : EditAt m w lo [.int .i64 e.vKind, .slice ap e.vPath.length cp, .string e.vTag, .string (strT e.vTree), .slice a (kidsOf e.vTree).length c] e) (hform : formB e = true) :
    Calls Try.prog 50 #[.pointer (some ⟨R, 0, none⟩), chV e (.slice ap e.vPath.length cp) (.slice a (kidsOf e.vTree).length c)] w fun e1 w' => ChR w w' R C fs d e (.slice ap e.vPath.length cp) e1 := by
  obtain ⟨kp, t, k, ee, _, hp0, htg0, ht0⟩ := he
  simp only [List.cons.injEq, and_true, true_and] at ee
  obtain ⟨e1, e2, e3⟩ := ee
  subst e1 e2 e3
  have hrow : Hid (RowIs w R 0 C 26 cs) := hrow0
  have hl : Hid (cs.length = 2) := hl0
  have htp : Hid (TreeP n w cs d fs) := htP
  have hnd : Hid (fs.Nodup) := hnd0
  have hb : Hid (R ∉ fs) := hb00
  have hRh : Hid (RightT d) := hRd
  have hp : Hid (SeqAt 1 IntAt w lo (.slice ap e.vPath.length cp) e.vPath) := hp0
  have htg : Hid (e.vTag.size ≤ maxLen) := htg0
  have ht : Hid (TreeAt w lo m (.string (strT e.vTree)) (.slice a (kidsOf e.vTree).length c) e.vTree) := ht0
  have hfl : Hid (∀ x ∈ fs, x < w.heap.size) := fun x hx => TreeP_lt n _ _ _ _ htP x hx
  have hform' : Hid (formB e = true) := hform
  clear hrow0 hl0 htP hnd0 hb00 hRd hp0 htg0 ht0 hform
  by_cases hk1 : e.vKind = 1
  · have hcv : chV e (.slice ap e.vPath.length cp) (.slice a (kidsOf e.vTree).length c) = .iface 90 (.agg #[.slice ap e.vPath.length cp, .string (strT e.vTree), .slice a (kidsOf e.vTree).length c]) := by simp [chV, hk1]
    rw [hcv]
    have hf : 0 < e.vPath.length ∧ treeB e.vTree = true := by have q := hform'.out; simp [formB, hk1] at q; exact ⟨q.1.2, q.2⟩
    obtain ⟨m1, p, hm0, hpp0⟩ := snoc_last hf.1
    have hm1 : Hid (e.vPath.length = m1 + 1) := hm0
    have hpp : Hid (e.vPath = e.vPath.take m1 ++ [p]) := hpp0
    have hRx : Hid (RightT e.vTree) := treeB_right hf.2
    have hput : Hid (putD e.vKind e.vTag e.vTree e.vPath d = if okP d (e.vPath.take m1) = true ∧ 0 ≤ p ∧ p ≤ ((kidsOf (endP d (e.vPath.take m1))).length : Int) then some (setP d (e.vPath.take m1) (mkT (strT (endP d (e.vPath.take m1))) (insK (kidsOf (endP d (e.vPath.take m1))) p.toNat e.vTree))) else none) := by
      show _ = _
      rw [hk1]
      exact (congrArg (fun z => putD 1 e.vTag e.vTree z d) hpp0).trans (putD_insert _ _ _ _ _)
    have hk : Hid (e.vKind = 1) := hk1
    clear hf hm0 hpp0 hcv hk1
    have hb1 : Hid (Below w.heap.size w (w.alloc (.cells #[.slice ap e.vPath.length cp, .string (strT e.vTree), .slice a (kidsOf e.vTree).length c] 90))) := (Below.refl _ _).alloc (Nat.le_refl _) _
    have hb1s : Hid (w.heap.size ≤ (w.alloc (.cells #[.slice ap e.vPath.length cp, .string (strT e.vTree), .slice a (kidsOf e.vTree).length c] 90)).heap.size) := hb1.out.size
    have hI := asI
    go_enter Try.func50, Try.ntmps50
    go_wp2_with fail
    refine (insertIn_any (n := n) (nx := m) (lo := lo) (hrow.out.below hb1.out) hl.out (TreeP_stays n _ _ _ _ _ (fun x hx => hb1.out.block x (hfl.out x hx)) htp.out) hnd.out hb.out hRh.out (hp.out.below intAt_stays hb1.out) (seqAt_take (hp.out.below intAt_stays hb1.out) (by rw [hm1.out]; omega)) hm1.out (seqAt_cap hp.out) hpp.out (ht.out.below hb1.out) hRx.out).mono ?_
    rintro e1 w2 h
    rcases h with ⟨h1, h2, h3, rfl, hT0, hO0⟩ | ⟨hno0, rfl, hB0⟩
    · have hc : Hid (okP d (e.vPath.take m1) = true ∧ 0 ≤ p ∧ p ≤ ((kidsOf (endP d (e.vPath.take m1))).length : Int)) := ⟨h1, h2, h3⟩
      have hT : Hid _ := hT0.back hb1s.out
      have hO : Hid (Out (R :: fs) w w2) := (out_of_below hb1.out).trans hO0
      clear h1 h2 h3 hT0 hO0
      go_wp2_with fail
      go_ret2
      exact Or.inl ⟨_, _, by rw [hput.out, if_pos hc.out], rfl, Or.inl ⟨hk.out, rfl⟩, hT.out, hO.out⟩
    · have hno : Hid (¬ (okP d (e.vPath.take m1) = true ∧ 0 ≤ p ∧ p ≤ ((kidsOf (endP d (e.vPath.take m1))).length : Int))) := hno0
      clear hno0
      have hB : Hid (Below w.heap.size w w2) := hb1.out.trans (hB0.mono hb1.out.size)
      clear hB0
      go_wp2_with fail
      go_ret2
      exact Or.inr ⟨by rw [hput.out, if_neg hno.out], rfl, hB.out⟩
  by_cases hk2 : e.vKind = 2
  · have hcv : chV e (.slice ap e.vPath.length cp) (.slice a (kidsOf e.vTree).length c) = .iface 88 (.agg #[.slice ap e.vPath.length cp]) := by simp [chV, hk2]
    rw [hcv]
    have hf : 0 < e.vPath.length := by have q := hform'.out; simp [formB, hk2] at q; exact q.1.2
    obtain ⟨m1, p, hm0, hpp0⟩ := snoc_last hf
    have hm1 : Hid (e.vPath.length = m1 + 1) := hm0
    have hpp : Hid (e.vPath = e.vPath.take m1 ++ [p]) := hpp0
    have hput : Hid (putD e.vKind e.vTag e.vTree e.vPath d = if okP d e.vPath = true then some (setP d (e.vPath.take m1) (mkT (strT (endP d (e.vPath.take m1))) ((kidsOf (endP d (e.vPath.take m1))).eraseIdx p.toNat))) else none) := by
      show _ = _
      rw [hk2]
      have q := (congrArg (fun z => putD 2 e.vTag e.vTree z d) hpp0).trans (putD_delete _ _ _ _ _)
      rw [← hpp0] at q
      exact q
    have hk : Hid (e.vKind = 2) := hk2
    clear hf hm0 hpp0 hcv hk1 hk2
    have hb1 : Hid (Below w.heap.size w (w.alloc (.cells #[.slice ap e.vPath.length cp] 88))) := (Below.refl _ _).alloc (Nat.le_refl _) _
    have hb1s : Hid (w.heap.size ≤ (w.alloc (.cells #[.slice ap e.vPath.length cp] 88)).heap.size) := hb1.out.size
    have hDI := noDI
    have hD := asD
    go_enter Try.func50, Try.ntmps50
    go_wp2_with fail
    refine (deleteIn_any (n := n) (lo := lo) (p := p) (hrow.out.below hb1.out) hl.out (TreeO_stays n _ _ _ _ _ (fun x hx => hb1.out.block x (hfl.out x hx)) (TreeP.toO _ _ _ _ _ htp.out)) hnd.out hb.out (hp.out.below intAt_stays hb1.out) (seqAt_take (hp.out.below intAt_stays hb1.out) (by rw [hm1.out]; omega)) hm1.out (seqAt_cap hp.out) hpp.out).mono ?_
    rintro e1 w2 h
    rcases h with ⟨h1, k1, fi, n3, rfl, ht3, _, hfi0, hT0, hO0⟩ | ⟨hno0, rfl, hB0⟩
    · have hc : Hid (okP d e.vPath = true) := h1
      have hT : Hid _ := hT0.back hb1s.out
      have hO : Hid (Out (R :: fs) w w2) := (out_of_below hb1.out).trans hO0
      have ht3' : Hid _ := ht3
      have hfi : Hid (∀ b ∈ fi, b ∈ fs) := hfi0
      clear h1 hT0 hO0 ht3 hfi0
      go_wp2_with fail
      go_ret2
      exact Or.inl ⟨_, _, by rw [hput.out, if_pos hc.out], rfl, Or.inr (Or.inl ⟨hk.out, hc.out, k1, fi, n3, rfl, ht3'.out, hfi.out⟩), hT.out, hO.out⟩
    · have hno : Hid (¬ okP d e.vPath = true) := by show ¬ _; rw [hno0]; simp
      clear hno0
      have hB : Hid (Below w.heap.size w w2) := hb1.out.trans (hB0.mono hb1.out.size)
      clear hB0
      go_wp2_with fail
      go_ret2
      exact Or.inr ⟨by rw [hput.out, if_neg hno.out], rfl, hB.out⟩
  by_cases hk3 : e.vKind = 3
  · have hcv : chV e (.slice ap e.vPath.length cp) (.slice a (kidsOf e.vTree).length c) = .iface 85 (.agg #[.slice ap e.vPath.length cp, .string e.vTag]) := by simp [chV, hk3]
    rw [hcv]
    have hput : Hid (putD e.vKind e.vTag e.vTree e.vPath d = if okP d e.vPath = true then some (setP d e.vPath (mkT e.vTag (kidsOf (endP d e.vPath)))) else none) := by
      show _ = _
      rw [hk3]
      exact putD_rename _ _ _ _
    have hk : Hid (e.vKind = 3) := hk3
    clear hcv hk1 hk2 hk3
    have hb1 : Hid (Below w.heap.size w (w.alloc (.cells #[.slice ap e.vPath.length cp, .string e.vTag] 85))) := (Below.refl _ _).alloc (Nat.le_refl _) _
    have hb1s : Hid (w.heap.size ≤ (w.alloc (.cells #[.slice ap e.vPath.length cp, .string e.vTag] 85)).heap.size) := hb1.out.size
    have hRI := noRI
    have hRD := noRD
    have hR := asR
    go_enter Try.func50, Try.ntmps50
    go_wp2_with fail
    refine (renameIn_any (n := n) (lo := lo) (hrow.out.below hb1.out) hl.out (TreeO_stays n _ _ _ _ _ (fun x hx => hb1.out.block x (hfl.out x hx)) (TreeP.toO _ _ _ _ _ htp.out)) hnd.out hb.out (hp.out.below intAt_stays hb1.out) htg.out).mono ?_
    rintro e1 w2 h
    rcases h with ⟨h1, rfl, hT0, hO0⟩ | ⟨hno0, rfl, hB0⟩
    · have hc : Hid (okP d e.vPath = true) := h1
      have hT : Hid _ := hT0.back hb1s.out
      have hO : Hid (Out (R :: fs) w w2) := (out_of_below hb1.out).trans hO0
      clear h1 hT0 hO0
      go_wp2_with fail
      go_ret2
      exact Or.inl ⟨_, _, by rw [hput.out, if_pos hc.out], rfl, Or.inr (Or.inr ⟨hk.out, hc.out, rfl⟩), hT.out, hO.out⟩
    · have hno : Hid (¬ okP d e.vPath = true) := by show ¬ _; rw [hno0]; simp
      clear hno0
      have hB : Hid (Below w.heap.size w w2) := hb1.out.trans (hB0.mono hb1.out.size)
      clear hB0
      go_wp2_with fail
      go_ret2
      exact Or.inr ⟨by rw [hput.out, if_neg hno.out], rfl, hB.out⟩
  have q := hform'.out
  simp [formB, hk1, hk2, hk3] at q
end Go.Proofs.Ytndffcogddefiaa
namespace Go.Proofs.Ytndffcogddefiaa
open Go.RowKit Go.Deep
/-- what changedTree answers -/
def CtR (w w' : World) (d : TD) (e : EditD) (kp : Value) (e1 : Ending) : Prop :=
  ((∃ (y : TD) (cs3 : List Value) (fs3 : List Nat) (n3 : Nat) (bv : Value) (fb : List Nat), editedD d e = some y ∧ e1 = .returned (.tuple #[.agg cs3.toArray, bv, .bool true]) ∧ TreeO n3 w' cs3 y fs3 ∧ fs3.Nodup ∧ (∀ b ∈ fs3, w.heap.size ≤ b) ∧ Back w' bv d e kp fb ∧ ∀ b ∈ fb, w.heap.size ≤ b) ∨ (editedD d e = none ∧ e1 = .returned (.tuple #[.agg #[.string ⟨#[]⟩, .slice none 0 0], .nilIface, .bool false]))) ∧ Below w.heap.size w w'
theorem Box.row {w : World} {b : Nat} {cs : List Value} {T : TypeId} (h : Box w b cs T) : RowIs w b 0 cs.toArray T cs := ⟨cs.toArray, h, rfl, by simp, fun _ _ => rfl, fun m _ => by simp⟩
theorem treeO_ta {n : Nat} {w : World} {t k : Value} {d : TD} {fs : List Nat} (h : TreeO n w [t, k] d fs) : TreeAt w 0 n t k d := TreeL.at n _ _ _ (TreeO_at (lo := 0) n _ _ _ _ h (fun _ _ => Nat.zero_le _))
set_option maxRecDepth 100000 in
set_option maxHeartbeats 8000000 in
theorem changedTree_any {n m : Nat} {w : World} {t k : Value} {ap at1 : Option Addr} {cp ct : Nat} {d : TD} {e : EditD} (ht0 : TreeAt w 0 n t k d) (he0 : EditAt m w 0 [.int .i64 e.vKind, .slice ap e.vPath.length cp, .string e.vTag, .string (strT e.vTree), .slice at1 (kidsOf e.vTree).length ct] e) :
    Calls Try.prog 28 #[.agg #[t, k], .agg #[.int .i64 e.vKind, .slice ap e.vPath.length cp, .string e.vTag, .string (strT e.vTree), .slice at1 (kidsOf e.vTree).length ct]] w fun e1 w' => CtR w w' d e (.slice ap e.vPath.length cp) e1 := by
  obtain ⟨rfl, _⟩ := ht0.tag
  obtain ⟨_, a0, c0, rfl⟩ := ht0.form
  have he : Hid (∀ W, Below w.heap.size w W → EditAt m W 0 [.int .i64 e.vKind, .slice ap e.vPath.length cp, .string e.vTag, .string (strT e.vTree), .slice at1 (kidsOf e.vTree).length ct] e) := fun W hb => EditAt.stays _ _ _ _ _ _ (.of_below hb) he0
  have ht : Hid (∀ W, Below w.heap.size w W → TreeAt W 0 n (.string (strT d)) (.slice a0 (kidsOf d).length c0) d) := fun W hb => ht0.below hb
  have hed : Hid (editedD d e = if treeB d = true ∧ formB e = true then (match putD e.vKind e.vTag e.vTree e.vPath d with
    | some x => if treeB x = true then some x else none
    | none => none) else none) := rfl
  clear ht0 he0
  have hB0 : Hid (Below w.heap.size w (((w.alloc (.cells #[.string (strT d), .slice a0 (kidsOf d).length c0] 26)).alloc (.cells #[.int .i64 e.vKind, .slice ap e.vPath.length cp, .string e.vTag, .string (strT e.vTree), .slice at1 (kidsOf e.vTree).length ct] 29)).alloc (.cells #[.string ⟨#[]⟩, .slice none 0 0] 26))) := (((Below.refl _ _).alloc (Nat.le_refl _) _).alloc (by simp) _).alloc (by simp; omega) _
  have bT0 : Hid (Box (((w.alloc (.cells #[.string (strT d), .slice a0 (kidsOf d).length c0] 26)).alloc (.cells #[.int .i64 e.vKind, .slice ap e.vPath.length cp, .string e.vTag, .string (strT e.vTree), .slice at1 (kidsOf e.vTree).length ct] 29)).alloc (.cells #[.string ⟨#[]⟩, .slice none 0 0] 26)) w.heap.size [.string (strT d), .slice a0 (kidsOf d).length c0] 26) := ((Box.new w [.string (strT d), .slice a0 (kidsOf d).length c0] 26).alloc _).alloc _
  have bE0 : Hid (Box (((w.alloc (.cells #[.string (strT d), .slice a0 (kidsOf d).length c0] 26)).alloc (.cells #[.int .i64 e.vKind, .slice ap e.vPath.length cp, .string e.vTag, .string (strT e.vTree), .slice at1 (kidsOf e.vTree).length ct] 29)).alloc (.cells #[.string ⟨#[]⟩, .slice none 0 0] 26)) (w.heap.size + 1) [.int .i64 e.vKind, .slice ap e.vPath.length cp, .string e.vTag, .string (strT e.vTree), .slice at1 (kidsOf e.vTree).length ct] 29) := by
    have q := (Box.new (w.alloc (.cells #[.string (strT d), .slice a0 (kidsOf d).length c0] 26)) [.int .i64 e.vKind, .slice ap e.vPath.length cp, .string e.vTag, .string (strT e.vTree), .slice at1 (kidsOf e.vTree).length ct] 29).alloc (.cells #[.string ⟨#[]⟩, .slice none 0 0] 26)
    simpa only [World.size_alloc, Hid] using q
  have bR0 : Hid (Box (((w.alloc (.cells #[.string (strT d), .slice a0 (kidsOf d).length c0] 26)).alloc (.cells #[.int .i64 e.vKind, .slice ap e.vPath.length cp, .string e.vTag, .string (strT e.vTree), .slice at1 (kidsOf e.vTree).length ct] 29)).alloc (.cells #[.string ⟨#[]⟩, .slice none 0 0] 26)) (w.heap.size + 1 + 1) [.string ⟨#[]⟩, .slice none 0 0] 26) := by
    have q := Box.new ((w.alloc (.cells #[.string (strT d), .slice a0 (kidsOf d).length c0] 26)).alloc (.cells #[.int .i64 e.vKind, .slice ap e.vPath.length cp, .string e.vTag, .string (strT e.vTree), .slice at1 (kidsOf e.vTree).length ct] 29)) [.string ⟨#[]⟩, .slice none 0 0] 26
    simpa only [World.size_alloc, Hid] using q
  go_enter Try.func28, Try.ntmps28
  have p0 := bE0.out.cell 0 rfl
  have p1 := bE0.out.cell 1 rfl
  have p2 := bE0.out.cell 2 rfl
  have p3 := bE0.out.cell 3 rfl
  have p4 := bE0.out.cell 4 rfl
  go_wp2_with fail
  refine (rightChange_any (he.out _ hB0.out)).mono ?_
  rintro e1 w1 ⟨rfl, hb1⟩
  have hB1 : Hid (Below w.heap.size w w1) := hB0.out.trans (hb1.mono hB0.out.size)
  have bT1 : Hid (Box w1 w.heap.size [.string (strT d), .slice a0 (kidsOf d).length c0] 26) := bT0.out.below hb1 bT0.out.lt
  have bR1 : Hid (Box w1 (w.heap.size + 1 + 1) [.string ⟨#[]⟩, .slice none 0 0] 26) := bR0.out.below hb1 bR0.out.lt
  clear hb1 p0 p1 p2 p3 p4 bE0 bT0 bR0 hB0
  rcases (by cases formB e <;> simp : formB e = false ∨ formB e = true) with hf | hf
  · have hno : Hid (editedD d e = none) := edited_not (Or.inr hf)
    rw [hf]
    clear hf
    have r0 := bR1.out.cell 0 rfl
    have r1 := bR1.out.cell 1 rfl
    have fR := bR1.out.unfrozen
    go_wp2_with fail
    have z1 := Box.set (i := 1) (Box.set (i := 0) bR1.out (.string ⟨#[]⟩)) (.slice none 0 0)
    have z10 := z1.cell 0 rfl
    have z11 := z1.cell 1 rfl
    exact bodyPost_ret (v := .tuple #[.agg #[.string ⟨#[]⟩, .slice none 0 0], .nilIface, .bool false]) (by simp [results, Try.results28, go_sem, z10, z11]) rfl ⟨Or.inr ⟨hno.out, rfl⟩, putCells_below [.string ⟨#[]⟩, .slice none 0 0] _ _ _ (w.heap.size + 1 + 1) 0 (by omega) hB1.out⟩
  have hfh : Hid (formB e = true) := hf
  rw [hf]
  clear hf
  have t0 := bT1.out.cell 0 rfl
  have t1 := bT1.out.cell 1 rfl
  go_wp2_with fail
  refine (implOk_any (ht.out _ hB1.out)).mono ?_
  rintro e1 w2 ⟨rfl, hb2⟩
  have hB2 : Hid (Below w.heap.size w w2) := hB1.out.trans (hb2.mono hB1.out.size)
  have bT2 : Hid (Box w2 w.heap.size [.string (strT d), .slice a0 (kidsOf d).length c0] 26) := bT1.out.below hb2 bT1.out.lt
  have bR2 : Hid (Box w2 (w.heap.size + 1 + 1) [.string ⟨#[]⟩, .slice none 0 0] 26) := bR1.out.below hb2 bR1.out.lt
  clear hb2 t0 t1 bT1 bR1 hB1
  rcases (by cases treeB d <;> simp : treeB d = false ∨ treeB d = true) with hf | hf
  · have hno : Hid (editedD d e = none) := edited_not (Or.inl hf)
    rw [hf]
    clear hf
    have r0 := bR2.out.cell 0 rfl
    have r1 := bR2.out.cell 1 rfl
    have fR := bR2.out.unfrozen
    go_wp2_with fail
    have z1 := Box.set (i := 1) (Box.set (i := 0) bR2.out (.string ⟨#[]⟩)) (.slice none 0 0)
    have z10 := z1.cell 0 rfl
    have z11 := z1.cell 1 rfl
    exact bodyPost_ret (v := .tuple #[.agg #[.string ⟨#[]⟩, .slice none 0 0], .nilIface, .bool false]) (by simp [results, Try.results28, go_sem, z10, z11]) rfl ⟨Or.inr ⟨hno.out, rfl⟩, putCells_below [.string ⟨#[]⟩, .slice none 0 0] _ _ _ (w.heap.size + 1 + 1) 0 (by omega) hB2.out⟩
  have hdh : Hid (treeB d = true) := hf
  rw [hf]
  clear hf
  have t0 := bT2.out.cell 0 rfl
  have t1 := bT2.out.cell 1 rfl
  go_wp2_with fail
  refine (cpP_all n _ 0 _ _ d (ht.out _ hB2.out) (treeB_right hdh.out)).mono ?_
  rintro e1 w3 ⟨⟨cs3, fs3, rfl, ho3, nd3, lo3⟩, hb3⟩
  obtain ⟨k3, rfl, hs3, _⟩ := ho3.opened
  obtain ⟨a3, c3, rfl⟩ := hs3.form
  have hB3 : Hid (Below w.heap.size w w3) := hB2.out.trans (hb3.mono hB2.out.size)
  have bR3 : Hid (Box w3 (w.heap.size + 1 + 1) [.string ⟨#[]⟩, .slice none 0 0] 26) := bR2.out.below hb3 bR2.out.lt
  have ho3h : Hid (TreeP n w3 [.string (strT d), .slice a3 (kidsOf d).length c3] d fs3) := ho3
  have nd3h : Hid (fs3.Nodup) := nd3
  have lo3h : Hid (∀ b ∈ fs3, w2.heap.size ≤ b) := lo3
  have s23 : Hid (w.heap.size + 1 + 1 < w2.heap.size) := bR2.out.lt
  have s3 : Hid (w2.heap.size ≤ w3.heap.size) := hb3.size
  have hf3 : Hid (∀ b ∈ fs3, b < w3.heap.size) := TreeP_lt n _ _ _ _ ho3
  clear hb3 t0 t1 bT2 bR2 hB2 ho3 hs3 nd3 lo3
  have hb4 : Hid (Below w3.heap.size w3 (w3.alloc (.cells #[.string (strT d), .slice a3 (kidsOf d).length c3] 26))) := (Below.refl _ _).alloc (Nat.le_refl _) _
  have hB4 : Hid (Below w.heap.size w (w3.alloc (.cells #[.string (strT d), .slice a3 (kidsOf d).length c3] 26))) := hB3.out.trans (hb4.out.mono hB3.out.size)
  have bA4 : Hid (Box (w3.alloc (.cells #[.string (strT d), .slice a3 (kidsOf d).length c3] 26)) w3.heap.size [.string (strT d), .slice a3 (kidsOf d).length c3] 26) := Box.new w3 _ _
  have bR4 : Hid (Box (w3.alloc (.cells #[.string (strT d), .slice a3 (kidsOf d).length c3] 26)) (w.heap.size + 1 + 1) [.string ⟨#[]⟩, .slice none 0 0] 26) := bR3.out.alloc _
  have ho4 : Hid (TreeP n (w3.alloc (.cells #[.string (strT d), .slice a3 (kidsOf d).length c3] 26)) [.string (strT d), .slice a3 (kidsOf d).length c3] d fs3) := TreeP_stays n _ _ _ _ _ (fun b hb => hb4.out.block b (hf3.out b hb)) ho3h.out
  have hR3 : Hid (w3.heap.size ∉ fs3) := fun q => by have := hf3.out _ q; omega
  have s4 : Hid ((w3.alloc (.cells #[.string (strT d), .slice a3 (kidsOf d).length c3] 26)).heap.size = w3.heap.size + 1) := by simp [Hid]
  go_wp2_with fail
  refine (changeIn_any (lo := 0) bA4.out.row rfl ho4.out nd3h.out hR3.out (treeB_right hdh.out) (he.out _ hB4.out) hfh.out).mono ?_
  rintro e1 w5 h5
  rcases h5 with ⟨y, bv, hput, rfl, hbk0, ⟨cs5, fs5, n5, hl5, hr5, ht5, nd5, hn5, lo5⟩, hO5⟩ | ⟨hput, rfl, hb5⟩
  · obtain ⟨k5, rfl, hs5, _⟩ := ht5.opened
    obtain ⟨a5, c5, rfl⟩ := hs5.form
    have hbk : Hid (Back w5 bv d e (.slice ap e.vPath.length cp) fs3) := hbk0
    have hpt : Hid (putD e.vKind e.vTag e.vTree e.vPath d = some y) := hput
    have hr5h : Hid (RowIs w5 w3.heap.size 0 (List.toArray [.string (strT d), .slice a3 (kidsOf d).length c3]) 26 [.string (strT y), .slice a5 (kidsOf y).length c5]) := hr5
    have ht5h : Hid (TreeO n5 w5 [.string (strT y), .slice a5 (kidsOf y).length c5] y fs5) := ht5
    have nd5h : Hid (fs5.Nodup) := nd5
    have lo5h : Hid (∀ b ∈ fs5, w2.heap.size ≤ b) := fun b hb => by
      rcases lo5 b hb with q | q
      · exact lo3h.out b q
      · have h1 := s4.out; have h2 := s3.out; omega
    have hB5 : Hid (Below w.heap.size w w5) := hB4.out.trans (hO5.below (by have h1 := hB4.out.size; exact h1) (fun b hb => by
      rcases List.mem_cons.1 hb with q | q
      · have h1 := hB3.out.size; omega
      · have h1 := lo3h.out b q; have h2 := s23.out; omega))
    have bR5 : Hid (Box w5 (w.heap.size + 1 + 1) [.string ⟨#[]⟩, .slice none 0 0] 26) := (hO5.keep bR4.out.lt (fun q => by
      rcases List.mem_cons.1 q with q | q
      · have h1 := s23.out; have h2 := s3.out; omega
      · have h1 := lo3h.out _ q; have h2 := s23.out; omega)).trans bR4.out
    clear hbk0 hput hr5 ht5 nd5 lo5 hO5 hn5 hl5 hs5
    have u0 := hr5h.out.cell 0 rfl
    have u1 := hr5h.out.cell 1 rfl
    simp only [Nat.zero_add] at u0 u1
    go_wp2_with fail
    refine (implOk_any (treeO_ta ht5h.out)).mono ?_
    rintro e1 w6 ⟨rfl, hb6⟩
    have hB6 : Hid (Below w.heap.size w w6) := hB5.out.trans (hb6.mono hB5.out.size)
    have bR6 : Hid (Box w6 (w.heap.size + 1 + 1) [.string ⟨#[]⟩, .slice none 0 0] 26) := bR5.out.below hb6 bR5.out.lt
    have hr6 : Hid (RowIs w6 w3.heap.size 0 (List.toArray [.string (strT d), .slice a3 (kidsOf d).length c3]) 26 [.string (strT y), .slice a5 (kidsOf y).length c5]) := hr5h.out.below hb6
    have ht6 : Hid (TreeO n5 w6 [.string (strT y), .slice a5 (kidsOf y).length c5] y fs5) := TreeO_stays n5 _ _ _ _ _ (fun b hb => hb6.block b (TreeO_lt _ _ _ _ _ ht5h.out b hb)) ht5h.out
    have hbl : Hid (∀ b ∈ fs3, b < w5.heap.size) := fun b hb => by have h1 := hf3.out b hb; have h2 := hr5h.out.lt; omega
    have hbk6 : Hid (Back w6 bv d e (.slice ap e.vPath.length cp) fs3) := hbk.out.stays (fun b hb => hb6.block b (hbl.out b hb))
    clear hb6 u0 u1 hbk ht5h bR5 hr5h
    rcases (by cases treeB y <;> simp : treeB y = false ∨ treeB y = true) with hf | hf
    · have hno : Hid (editedD d e = none) := by show _ = _; rw [hed.out, if_pos ⟨hdh.out, hfh.out⟩, hpt.out]; simp [hf]
      rw [hf]
      clear hf
      have r0 := bR6.out.cell 0 rfl
      have r1 := bR6.out.cell 1 rfl
      have fR := bR6.out.unfrozen
      go_wp2_with fail
      have z1 := Box.set (i := 1) (Box.set (i := 0) bR6.out (.string ⟨#[]⟩)) (.slice none 0 0)
      have z10 := z1.cell 0 rfl
      have z11 := z1.cell 1 rfl
      exact bodyPost_ret (v := .tuple #[.agg #[.string ⟨#[]⟩, .slice none 0 0], .nilIface, .bool false]) (by simp [results, Try.results28, go_sem, z10, z11]) rfl ⟨Or.inr ⟨hno.out, rfl⟩, putCells_below [.string ⟨#[]⟩, .slice none 0 0] _ _ _ (w.heap.size + 1 + 1) 0 (by omega) hB6.out⟩
    have hso : Hid (editedD d e = some y) := by show _ = _; rw [hed.out, if_pos ⟨hdh.out, hfh.out⟩, hpt.out]; simp [hf]
    rw [hf]
    clear hf
    have u0 := hr6.out.cell 0 rfl
    have u1 := hr6.out.cell 1 rfl
    simp only [Nat.zero_add] at u0 u1
    have r0 := bR6.out.cell 0 rfl
    have r1 := bR6.out.cell 1 rfl
    have fR := bR6.out.unfrozen
    go_wp2_with fail
    have z1 := Box.set (i := 1) (Box.set (i := 0) bR6.out (.string (strT y))) (.slice a5 (kidsOf y).length c5)
    have z10 := z1.cell 0 rfl
    have z11 := z1.cell 1 rfl
    refine bodyPost_ret (v := .tuple #[.agg #[.string (strT y), .slice a5 (kidsOf y).length c5], bv, .bool true]) (by simp [results, Try.results28, go_sem, z10, z11]) rfl ?_
    refine ⟨Or.inl ⟨y, [.string (strT y), .slice a5 (kidsOf y).length c5], fs5, n5, bv, fs3, hso.out, rfl, TreeO_stays n5 _ _ _ _ _ (fun b q => putCells_other [.string (strT y), .slice a5 (kidsOf y).length c5] w6 (w.heap.size + 1 + 1) 0 b (by have := lo5h.out b q; have := s23.out; omega)) ht6.out, nd5h.out, fun b q => by have := lo5h.out b q; have := s23.out; omega, hbk6.out.stays (fun b q => putCells_other [.string (strT y), .slice a5 (kidsOf y).length c5] w6 (w.heap.size + 1 + 1) 0 b (by have := lo3h.out b q; have := s23.out; omega)), fun b q => by have := lo3h.out b q; have := s23.out; omega⟩, putCells_below [.string (strT y), .slice a5 (kidsOf y).length c5] _ _ _ (w.heap.size + 1 + 1) 0 (by omega) hB6.out⟩
  · have hno : Hid (editedD d e = none) := by show _ = _; rw [hed.out, if_pos ⟨hdh.out, hfh.out⟩, hput]
    have hB5 : Hid (Below w.heap.size w w5) := hB4.out.trans (hb5.mono hB4.out.size)
    have bR5 : Hid (Box w5 (w.heap.size + 1 + 1) [.string ⟨#[]⟩, .slice none 0 0] 26) := bR4.out.below hb5 bR4.out.lt
    clear hput hb5
    have r0 := bR5.out.cell 0 rfl
    have r1 := bR5.out.cell 1 rfl
    have fR := bR5.out.unfrozen
    go_wp2_with fail
    have z1 := Box.set (i := 1) (Box.set (i := 0) bR5.out (.string ⟨#[]⟩)) (.slice none 0 0)
    have z10 := z1.cell 0 rfl
    have z11 := z1.cell 1 rfl
    exact bodyPost_ret (v := .tuple #[.agg #[.string ⟨#[]⟩, .slice none 0 0], .nilIface, .bool false]) (by simp [results, Try.results28, go_sem, z10, z11]) rfl ⟨Or.inr ⟨hno.out, rfl⟩, putCells_below [.string ⟨#[]⟩, .slice none 0 0] _ _ _ (w.heap.size + 1 + 1) 0 (by omega) hB5.out⟩
end Go.Proofs.Ytndffcogddefiaa
namespace Go.Proofs.Ytndffcogddefiaa
open Go.RowKit Go.Deep
set_option maxRecDepth 100000 in
set_option maxHeartbeats 8000000 in
theorem implEdited_any {n m : Nat} {w : World} {t k : Value} {cs : List Value} {d : TD} {e : EditD} (ht0 : TreeAt w 0 n t k d) (he0 : EditAt m w 0 cs e) :
    Calls Try.prog 10 #[.agg #[t, k], .agg cs.toArray] w fun e1 w' => EdR w w' (editedD d e) e1 := by
  obtain ⟨rfl, _⟩ := ht0.tag
  obtain ⟨_, a0, c0, rfl⟩ := ht0.form
  obtain ⟨ap, cp, at1, ct, rfl, _, _, _⟩ := he0.form
  have he : Hid (∀ W, Below w.heap.size w W → EditAt m W 0 [.int .i64 e.vKind, .slice ap e.vPath.length cp, .string e.vTag, .string (strT e.vTree), .slice at1 (kidsOf e.vTree).length ct] e) := fun W hb => EditAt.stays _ _ _ _ _ _ (.of_below hb) he0
  have ht : Hid (∀ W, Below w.heap.size w W → TreeAt W 0 n (.string (strT d)) (.slice a0 (kidsOf d).length c0) d) := fun W hb => ht0.below hb
  clear ht0 he0
  have hB0 : Hid (Below w.heap.size w (((w.alloc (.cells #[.string (strT d), .slice a0 (kidsOf d).length c0] 26)).alloc (.cells #[.int .i64 e.vKind, .slice ap e.vPath.length cp, .string e.vTag, .string (strT e.vTree), .slice at1 (kidsOf e.vTree).length ct] 29)).alloc (.cells #[.string ⟨#[]⟩, .slice none 0 0] 26))) := (((Below.refl _ _).alloc (Nat.le_refl _) _).alloc (by simp) _).alloc (by simp; omega) _
  have bT0 : Hid (Box (((w.alloc (.cells #[.string (strT d), .slice a0 (kidsOf d).length c0] 26)).alloc (.cells #[.int .i64 e.vKind, .slice ap e.vPath.length cp, .string e.vTag, .string (strT e.vTree), .slice at1 (kidsOf e.vTree).length ct] 29)).alloc (.cells #[.string ⟨#[]⟩, .slice none 0 0] 26)) w.heap.size [.string (strT d), .slice a0 (kidsOf d).length c0] 26) := ((Box.new w [.string (strT d), .slice a0 (kidsOf d).length c0] 26).alloc _).alloc _
  have bE0 : Hid (Box (((w.alloc (.cells #[.string (strT d), .slice a0 (kidsOf d).length c0] 26)).alloc (.cells #[.int .i64 e.vKind, .slice ap e.vPath.length cp, .string e.vTag, .string (strT e.vTree), .slice at1 (kidsOf e.vTree).length ct] 29)).alloc (.cells #[.string ⟨#[]⟩, .slice none 0 0] 26)) (w.heap.size + 1) [.int .i64 e.vKind, .slice ap e.vPath.length cp, .string e.vTag, .string (strT e.vTree), .slice at1 (kidsOf e.vTree).length ct] 29) := by
    have q := (Box.new (w.alloc (.cells #[.string (strT d), .slice a0 (kidsOf d).length c0] 26)) [.int .i64 e.vKind, .slice ap e.vPath.length cp, .string e.vTag, .string (strT e.vTree), .slice at1 (kidsOf e.vTree).length ct] 29).alloc (.cells #[.string ⟨#[]⟩, .slice none 0 0] 26)
    simpa only [World.size_alloc, Hid] using q
  have bR0 : Hid (Box (((w.alloc (.cells #[.string (strT d), .slice a0 (kidsOf d).length c0] 26)).alloc (.cells #[.int .i64 e.vKind, .slice ap e.vPath.length cp, .string e.vTag, .string (strT e.vTree), .slice at1 (kidsOf e.vTree).length ct] 29)).alloc (.cells #[.string ⟨#[]⟩, .slice none 0 0] 26)) (w.heap.size + 1 + 1) [.string ⟨#[]⟩, .slice none 0 0] 26) := by
    have q := Box.new ((w.alloc (.cells #[.string (strT d), .slice a0 (kidsOf d).length c0] 26)).alloc (.cells #[.int .i64 e.vKind, .slice ap e.vPath.length cp, .string e.vTag, .string (strT e.vTree), .slice at1 (kidsOf e.vTree).length ct] 29)) [.string ⟨#[]⟩, .slice none 0 0] 26
    simpa only [World.size_alloc, Hid] using q
  go_enter Try.func10, Try.ntmps10
  have p0 := bE0.out.cell 0 rfl
  have p1 := bE0.out.cell 1 rfl
  have p2 := bE0.out.cell 2 rfl
  have p3 := bE0.out.cell 3 rfl
  have p4 := bE0.out.cell 4 rfl
  have t0 := bT0.out.cell 0 rfl
  have t1 := bT0.out.cell 1 rfl
  go_wp2_with fail
  refine (changedTree_any (ht.out _ hB0.out) (he.out _ hB0.out)).mono ?_
  rintro e1 w1 ⟨h1, hb1⟩
  have hB1 : Hid (Below w.heap.size w w1) := hB0.out.trans (hb1.mono hB0.out.size)
  have hB1a : Hid (∀ o, Below w.heap.size w (w1.alloc o)) := fun o => hB1.out.alloc hB1.out.size o
  have bR1 : Hid (Box w1 (w.heap.size + 1 + 1) [.string ⟨#[]⟩, .slice none 0 0] 26) := bR0.out.below hb1 bR0.out.lt
  have s0 : Hid ((((w.alloc (.cells #[.string (strT d), .slice a0 (kidsOf d).length c0] 26)).alloc (.cells #[.int .i64 e.vKind, .slice ap e.vPath.length cp, .string e.vTag, .string (strT e.vTree), .slice at1 (kidsOf e.vTree).length ct] 29)).alloc (.cells #[.string ⟨#[]⟩, .slice none 0 0] 26)).heap.size = w.heap.size + 1 + 1 + 1) := by simp [Hid]
  clear hb1 p0 p1 p2 p3 p4 t0 t1 bE0 bT0 bR0 hB0
  rcases h1 with ⟨y, cs5, fs5, n5, bv, fb, hy, rfl, ho5, nd5, lo5, _, _⟩ | ⟨hno0, rfl⟩
  · obtain ⟨k5, rfl, hs5, _⟩ := ho5.opened
    obtain ⟨a5, c5, rfl⟩ := hs5.form
    have hso : Hid (editedD d e = some y) := hy
    have ho5h : Hid (TreeO n5 w1 [.string (strT y), .slice a5 (kidsOf y).length c5] y fs5) := ho5
    have nd5h : Hid (fs5.Nodup) := nd5
    have lo5h : Hid (∀ b ∈ fs5, w.heap.size + 1 + 1 + 1 ≤ b) := fun b hb => by have h1 := lo5 b hb; have h2 := s0.out; omega
    have hf5 : Hid (∀ b ∈ fs5, b < w1.heap.size) := TreeO_lt _ _ _ _ _ ho5
    clear hy ho5 nd5 lo5 hs5
    have bN : Hid (Box (w1.alloc (.cells #[.string (strT y), .slice a5 (kidsOf y).length c5] 26)) w1.heap.size [.string (strT y), .slice a5 (kidsOf y).length c5] 26) := Box.new w1 _ _
    have bR2 : Hid (Box (w1.alloc (.cells #[.string (strT y), .slice a5 (kidsOf y).length c5] 26)) (w.heap.size + 1 + 1) [.string ⟨#[]⟩, .slice none 0 0] 26) := bR1.out.alloc _
    have n0 := bN.out.cell 0 rfl
    have n1 := bN.out.cell 1 rfl
    have r0 := bR2.out.cell 0 rfl
    have r1 := bR2.out.cell 1 rfl
    have fR := bR2.out.unfrozen
    go_wp2_with fail
    have z1 := Box.set (i := 1) (Box.set (i := 0) bR2.out (.string (strT y))) (.slice a5 (kidsOf y).length c5)
    have z10 := z1.cell 0 rfl
    have z11 := z1.cell 1 rfl
    refine bodyPost_ret (v := .tuple #[.agg #[.string (strT y), .slice a5 (kidsOf y).length c5], .bool true]) (by simp [results, Try.results10, go_sem, z10, z11]) rfl ?_
    rw [hso.out]
    exact ⟨[.string (strT y), .slice a5 (kidsOf y).length c5], fs5, n5, rfl, TreeO_stays n5 w1 _ _ _ _ (fun b q => (putCells_other [.string (strT y), .slice a5 (kidsOf y).length c5] _ (w.heap.size + 1 + 1) 0 b (by have := lo5h.out b q; omega)).trans (((Below.refl w1.heap.size w1).alloc (Nat.le_refl _) _).block b (hf5.out b q))) ho5h.out, nd5h.out, fun b q => by have := lo5h.out b q; omega, putCells_below [.string (strT y), .slice a5 (kidsOf y).length c5] _ _ _ (w.heap.size + 1 + 1) 0 (by omega) (hB1a.out _)⟩
  · have hno : Hid (editedD d e = none) := hno0
    clear hno0
    have bN : Hid (Box (w1.alloc (.cells #[.string ⟨#[]⟩, .slice none 0 0] 26)) w1.heap.size [.string ⟨#[]⟩, .slice none 0 0] 26) := Box.new w1 _ _
    have bR2 : Hid (Box (w1.alloc (.cells #[.string ⟨#[]⟩, .slice none 0 0] 26)) (w.heap.size + 1 + 1) [.string ⟨#[]⟩, .slice none 0 0] 26) := bR1.out.alloc _
    have n0 := bN.out.cell 0 rfl
    have n1 := bN.out.cell 1 rfl
    have r0 := bR2.out.cell 0 rfl
    have r1 := bR2.out.cell 1 rfl
    have fR := bR2.out.unfrozen
    go_wp2_with fail
    have z1 := Box.set (i := 1) (Box.set (i := 0) bR2.out (.string ⟨#[]⟩)) (.slice none 0 0)
    have z10 := z1.cell 0 rfl
    have z11 := z1.cell 1 rfl
    exact bodyPost_ret (v := .tuple #[.agg #[.string ⟨#[]⟩, .slice none 0 0], .bool false]) (by simp [results, Try.results10, go_sem, z10, z11]) rfl (EdR.no hno.out (putCells_below [.string ⟨#[]⟩, .slice none 0 0] _ _ _ (w.heap.size + 1 + 1) 0 (by omega) (hB1a.out _)))
set_option maxRecDepth 100000 in
set_option maxHeartbeats 8000000 in
theorem implEditOk_any {n m : Nat} {w : World} {t k : Value} {cs : List Value} {d : TD} {e : EditD} (ht0 : TreeAt w 0 n t k d) (he0 : EditAt m w 0 cs e) :
    Calls Try.prog 13 #[.agg #[t, k], .agg cs.toArray] w fun e1 w' => e1 = .returned (.bool (editedD d e).isSome) ∧ Below w.heap.size w w' := by
  obtain ⟨rfl, _⟩ := ht0.tag
  obtain ⟨_, a0, c0, rfl⟩ := ht0.form
  obtain ⟨ap, cp, at1, ct, rfl, _, _, _⟩ := he0.form
  have he : Hid (∀ W, Below w.heap.size w W → EditAt m W 0 [.int .i64 e.vKind, .slice ap e.vPath.length cp, .string e.vTag, .string (strT e.vTree), .slice at1 (kidsOf e.vTree).length ct] e) := fun W hb => EditAt.stays _ _ _ _ _ _ (.of_below hb) he0
  have ht : Hid (∀ W, Below w.heap.size w W → TreeAt W 0 n (.string (strT d)) (.slice a0 (kidsOf d).length c0) d) := fun W hb => ht0.below hb
  clear ht0 he0
  have hB0 : Hid (Below w.heap.size w ((w.alloc (.cells #[.string (strT d), .slice a0 (kidsOf d).length c0] 26)).alloc (.cells #[.int .i64 e.vKind, .slice ap e.vPath.length cp, .string e.vTag, .string (strT e.vTree), .slice at1 (kidsOf e.vTree).length ct] 29))) := ((Below.refl _ _).alloc (Nat.le_refl _) _).alloc (by simp) _
  have bT0 : Hid (Box ((w.alloc (.cells #[.string (strT d), .slice a0 (kidsOf d).length c0] 26)).alloc (.cells #[.int .i64 e.vKind, .slice ap e.vPath.length cp, .string e.vTag, .string (strT e.vTree), .slice at1 (kidsOf e.vTree).length ct] 29)) w.heap.size [.string (strT d), .slice a0 (kidsOf d).length c0] 26) := (Box.new w [.string (strT d), .slice a0 (kidsOf d).length c0] 26).alloc _
  have bE0 : Hid (Box ((w.alloc (.cells #[.string (strT d), .slice a0 (kidsOf d).length c0] 26)).alloc (.cells #[.int .i64 e.vKind, .slice ap e.vPath.length cp, .string e.vTag, .string (strT e.vTree), .slice at1 (kidsOf e.vTree).length ct] 29)) (w.heap.size + 1) [.int .i64 e.vKind, .slice ap e.vPath.length cp, .string e.vTag, .string (strT e.vTree), .slice at1 (kidsOf e.vTree).length ct] 29) := by
    have q := Box.new (w.alloc (.cells #[.string (strT d), .slice a0 (kidsOf d).length c0] 26)) [.int .i64 e.vKind, .slice ap e.vPath.length cp, .string e.vTag, .string (strT e.vTree), .slice at1 (kidsOf e.vTree).length ct] 29
    simpa only [World.size_alloc, Hid] using q
  go_enter Try.func13, Try.ntmps13
  have p0 := bE0.out.cell 0 rfl
  have p1 := bE0.out.cell 1 rfl
  have p2 := bE0.out.cell 2 rfl
  have p3 := bE0.out.cell 3 rfl
  have p4 := bE0.out.cell 4 rfl
  have t0 := bT0.out.cell 0 rfl
  have t1 := bT0.out.cell 1 rfl
  go_wp2_with fail
  refine (changedTree_any (ht.out _ hB0.out) (he.out _ hB0.out)).mono ?_
  rintro e1 w1 ⟨h1, hb1⟩
  have hB1 : Hid (Below w.heap.size w w1) := hB0.out.trans (hb1.mono hB0.out.size)
  have hB1a : Hid (∀ o, Below w.heap.size w (w1.alloc o)) := fun o => hB1.out.alloc hB1.out.size o
  clear hb1 p0 p1 p2 p3 p4 t0 t1 bE0 bT0 hB0
  rcases h1 with ⟨y, cs5, fs5, n5, bv, fb, hy, rfl, ho5, _, _, _, _⟩ | ⟨hno0, rfl⟩
  · obtain ⟨k5, rfl, hs5, _⟩ := ho5.opened
    obtain ⟨a5, c5, rfl⟩ := hs5.form
    have hso : Hid (editedD d e = some y) := hy
    clear hy ho5 hs5
    go_wp2_with fail
    go_ret
    exact ⟨by rw [hso.out]; rfl, hB1a.out _⟩
  · have hno : Hid (editedD d e = none) := hno0
    clear hno0
    go_wp2_with fail
    go_ret
    exact ⟨by rw [hno.out]; rfl, hB1a.out _⟩
set_option maxRecDepth 100000 in
set_option maxHeartbeats 8000000 in
theorem specEditOk_any {n m : Nat} {w : World} {t k : Value} {cs : List Value} {d : TD} {e : EditD} (ht0 : TreeAt w 0 n t k d) (he0 : EditAt m w 0 cs e) :
    Calls Try.prog 37 #[.agg #[t, k], .agg cs.toArray] w fun e1 w' => e1 = .returned (.bool (editedD d e).isSome) ∧ Below w.heap.size w w' := by
  obtain ⟨rfl, _⟩ := ht0.tag
  obtain ⟨_, a0, c0, rfl⟩ := ht0.form
  obtain ⟨ap, cp, at1, ct, rfl, _, _, _⟩ := he0.form
  have he : Hid (∀ W, Below w.heap.size w W → EditAt m W 0 [.int .i64 e.vKind, .slice ap e.vPath.length cp, .string e.vTag, .string (strT e.vTree), .slice at1 (kidsOf e.vTree).length ct] e) := fun W hb => EditAt.stays _ _ _ _ _ _ (.of_below hb) he0
  have ht : Hid (∀ W, Below w.heap.size w W → TreeAt W 0 n (.string (strT d)) (.slice a0 (kidsOf d).length c0) d) := fun W hb => ht0.below hb
  clear ht0 he0
  have hB0 : Hid (Below w.heap.size w ((w.alloc (.cells #[.string (strT d), .slice a0 (kidsOf d).length c0] 26)).alloc (.cells #[.int .i64 e.vKind, .slice ap e.vPath.length cp, .string e.vTag, .string (strT e.vTree), .slice at1 (kidsOf e.vTree).length ct] 29))) := ((Below.refl _ _).alloc (Nat.le_refl _) _).alloc (by simp) _
  have bT0 : Hid (Box ((w.alloc (.cells #[.string (strT d), .slice a0 (kidsOf d).length c0] 26)).alloc (.cells #[.int .i64 e.vKind, .slice ap e.vPath.length cp, .string e.vTag, .string (strT e.vTree), .slice at1 (kidsOf e.vTree).length ct] 29)) w.heap.size [.string (strT d), .slice a0 (kidsOf d).length c0] 26) := (Box.new w [.string (strT d), .slice a0 (kidsOf d).length c0] 26).alloc _
  have bE0 : Hid (Box ((w.alloc (.cells #[.string (strT d), .slice a0 (kidsOf d).length c0] 26)).alloc (.cells #[.int .i64 e.vKind, .slice ap e.vPath.length cp, .string e.vTag, .string (strT e.vTree), .slice at1 (kidsOf e.vTree).length ct] 29)) (w.heap.size + 1) [.int .i64 e.vKind, .slice ap e.vPath.length cp, .string e.vTag, .string (strT e.vTree), .slice at1 (kidsOf e.vTree).length ct] 29) := by
    have q := Box.new (w.alloc (.cells #[.string (strT d), .slice a0 (kidsOf d).length c0] 26)) [.int .i64 e.vKind, .slice ap e.vPath.length cp, .string e.vTag, .string (strT e.vTree), .slice at1 (kidsOf e.vTree).length ct] 29
    simpa only [World.size_alloc, Hid] using q
  go_enter Try.func37, Try.ntmps37
  have p0 := bE0.out.cell 0 rfl
  have p1 := bE0.out.cell 1 rfl
  have p2 := bE0.out.cell 2 rfl
  have p3 := bE0.out.cell 3 rfl
  have p4 := bE0.out.cell 4 rfl
  have t0 := bT0.out.cell 0 rfl
  have t1 := bT0.out.cell 1 rfl
  go_wp2_with fail
  refine (specEdited_any (ht.out _ hB0.out) (he.out _ hB0.out)).mono ?_
  rintro e1 w1 ⟨cs5, fs5, n5, rfl, ho5, _, _, hb1⟩
  have hB1 : Hid (Below w.heap.size w w1) := hB0.out.trans (hb1.mono hB0.out.size)
  have hB1a : Hid (∀ o, Below w.heap.size w (w1.alloc o)) := fun o => hB1.out.alloc hB1.out.size o
  obtain ⟨k5, rfl, hs5, _⟩ := ho5.opened
  obtain ⟨a5, c5, rfl⟩ := hs5.form
  clear hb1 p0 p1 p2 p3 p4 t0 t1 bE0 bT0 hB0 ho5 hs5
  go_wp2_with fail
  go_ret
  exact ⟨rfl, hB1a.out _⟩
end Go.Proofs.Ytndffcogddefiaa
