/- changeIn of the program: walked. -/
import Derived.Test.YtfncmndgdomjiaaEdRch
import Derived.Test.YtfncmndgdomjiaaEdInsIn
namespace Go.Proofs.Ytfncmndgdomjiaa
open Go.RowKit Go.Deep
theorem seqAt_take {w : World} {lo cp : Nat} {ap : Option Addr} {path : List Int} (h : SeqAt 1 IntAt w lo (.slice ap path.length cp) path) {m : Nat} (hm : m ≤ path.length) : SeqAt 1 IntAt w lo (.slice ap m cp) (path.take m) := by
  obtain ⟨a, c, e, ⟨h1, h2⟩, hx⟩ := h
  injection e with e1 _ e3
  subst e1 e3
  have hl : (path.take m).length = m := by simp; omega
  refine ⟨ap, cp, by rw [hl], ⟨by omega, by omega⟩, fun h0 => ?_⟩
  obtain ⟨b, off, ha, q1, q2, hc⟩ := hx (by omega)
  refine ⟨b, off, ha, q1, q2, fun i hi => ?_⟩
  obtain ⟨cs, r1, r2, r3⟩ := hc i (by omega)
  exact ⟨cs, r1, r2, by simpa using r3⟩
theorem seqAt_cap {w : World} {lo cp : Nat} {ap : Option Addr} {path : List Int} (h : SeqAt 1 IntAt w lo (.slice ap path.length cp) path) : path.length ≤ cp := by
  obtain ⟨a, c, e, ⟨_, h2⟩, _⟩ := h
  injection e with _ _ e3
  omega
theorem asI (v : Value) (w : World) : (Instr.typeAssert (.iface 94 v) 63 94 true).run Try.prog w = .ok (.tuple #[v, .bool true]) w := by kernel_rfl
theorem asD (v : Value) (w : World) : (Instr.typeAssert (.iface 92 v) 63 92 true).run Try.prog w = .ok (.tuple #[v, .bool true]) w := by kernel_rfl
theorem asR (v : Value) (w : World) : (Instr.typeAssert (.iface 89 v) 63 89 true).run Try.prog w = .ok (.tuple #[v, .bool true]) w := by kernel_rfl
theorem noDI (v : Value) (w : World) : (Instr.typeAssert (.iface 92 v) 63 94 true).run Try.prog w = .ok (.tuple #[.agg #[.slice none 0 0, .string ⟨#[]⟩, .slice none 0 0], .bool false]) w := by kernel_rfl
theorem noRI (v : Value) (w : World) : (Instr.typeAssert (.iface 89 v) 63 94 true).run Try.prog w = .ok (.tuple #[.agg #[.slice none 0 0, .string ⟨#[]⟩, .slice none 0 0], .bool false]) w := by kernel_rfl
theorem noRD (v : Value) (w : World) : (Instr.typeAssert (.iface 89 v) 63 92 true).run Try.prog w = .ok (.tuple #[.agg #[.slice none 0 0], .bool false]) w := by kernel_rfl
/-- the change that leads back -/
def Back (w' : World) (bv : Value) (d : TD) (e : EditD) (kp : Value) (fs : List Nat) : Prop :=
  (e.vKind = 1 ∧ bv = .iface 92 (.agg #[kp])) ∨ (e.vKind = 2 ∧ okP d e.vPath = true ∧ ∃ (k1 : Value) (fi : List Nat) (n3 : Nat), bv = .iface 94 (.agg #[kp, .string (strT (endP d e.vPath)), k1]) ∧ TreeO n3 w' [.string (strT (endP d e.vPath)), k1] (endP d e.vPath) fi ∧ ∀ b ∈ fi, b ∈ fs) ∨ (e.vKind = 3 ∧ okP d e.vPath = true ∧ bv = .iface 89 (.agg #[kp, .string (strT (endP d e.vPath))]))
theorem Back.stays {w w' : World} {bv kp : Value} {d : TD} {e : EditD} {fs : List Nat} (h : Back w bv d e kp fs) (hk : ∀ b ∈ fs, w'.heap[b]? = w.heap[b]?) : Back w' bv d e kp fs := by
  rcases h with h | ⟨h1, h2, k1, fi, n3, h3, h4, h5⟩ | h
  · exact Or.inl h
  · exact Or.inr (Or.inl ⟨h1, h2, k1, fi, n3, h3, TreeO_stays n3 _ _ _ _ _ (fun b hb => hk b (h5 b hb)) h4, h5⟩)
  · exact Or.inr (Or.inr h)
/-- what changeIn answers -/
def ChR (w w' : World) (R : Nat) (C : Array Value) (fs : List Nat) (d : TD) (e : EditD) (kp : Value) (e1 : Ending) : Prop :=
  (∃ (y : TD) (bv : Value), putD e.vKind e.vTag e.vTree e.vPath d = some y ∧ e1 = .returned (.tuple #[bv, .bool true]) ∧ Back w' bv d e kp fs ∧ Turned w w' R C fs y ∧ Out (R :: fs) w w') ∨ (putD e.vKind e.vTag e.vTree e.vPath d = none ∧ e1 = .returned (.tuple #[.nilIface, .bool false]) ∧ Below w.heap.size w w')
theorem Turned.back {w w1 w' : World} {R : Nat} {C : Array Value} {fs : List Nat} {x : TD} (h : Turned w1 w' R C fs x) (hs : w.heap.size ≤ w1.heap.size) : Turned w w' R C fs x := by
  obtain ⟨cs3, fs3, n3, q1, q2, q3, q4, q5, q6⟩ := h
  exact ⟨cs3, fs3, n3, q1, q2, q3, q4, q5, fun b hb => (q6 b hb).imp id (fun q => Nat.le_trans hs q)⟩
theorem snoc_last {path : List Int} (h : 0 < path.length) : ∃ m p, path.length = m + 1 ∧ path = path.take m ++ [p] := by
  refine ⟨path.length - 1, path[path.length - 1], by omega, ?_⟩
  have q := List.take_succ_eq_append_getElem (l := path) (i := path.length - 1) (by omega)
  rw [List.take_of_length_le (by omega)] at q
  exact q
set_option maxRecDepth 100000 in
set_option maxHeartbeats 8000000 in
theorem changeIn_any {w : World} {n m R lo : Nat} {ap a : Option Addr} {cp c : Nat} {C : Array Value} {cs : List Value} {d : TD} {fs : List Nat} {e : EditD} (hrow0 : RowIs w R 0 C 33 cs) (hl0 : cs.length = 2) (htP : TreeP n w cs d fs) (hnd0 : fs.Nodup) (hb00 : R ∉ fs) (hRd : RightT d) (he : EditAt m w lo [.int .i64 e.vKind, .slice ap e.vPath.length cp, .string e.vTag, .string (strT e.vTree), .slice a (kidsOf e.vTree).length c] e) (hform : formB e = true) :
    Calls Try.prog 57 #[.pointer (some ⟨R, 0, none⟩), chV e (.slice ap e.vPath.length cp) (.slice a (kidsOf e.vTree).length c)] w fun e1 w' => ChR w w' R C fs d e (.slice ap e.vPath.length cp) e1 := by
  obtain ⟨kp, t, k, ee, _, hp0, htg0, ht0⟩ := he
  simp only [List.cons.injEq, and_true, true_and] at ee
  obtain ⟨e1, e2, e3⟩ := ee
  subst e1 e2 e3
  have hrow : Hid (RowIs w R 0 C 33 cs) := hrow0
  have hl : Hid (cs.length = 2) := hl0
  have htp : Hid (TreeP n w cs d fs) := htP
  have hnd : Hid (fs.Nodup) := hnd0
  have hb : Hid (R ∉ fs) := hb00
  have hRh : Hid (RightT d) := hRd
  have hp : Hid (SeqAt 1 IntAt w lo (.slice ap e.vPath.length cp) e.vPath) := hp0
  have htg : Hid (e.vTag.size ≤ maxLen) := htg0
  have ht : Hid (TreeAt w lo m (.string (strT e.vTree)) (.slice a (kidsOf e.vTree).length c) e.vTree) := ht0
  have hfl : Hid (∀ x ∈ fs, x < w.heap.size) := fun x hx => TreeP_lt n _ _ _ _ htP x hx
  have hform' : Hid (formB e = true) := hform
  clear hrow0 hl0 htP hnd0 hb00 hRd hp0 htg0 ht0 hform
  by_cases hk1 : e.vKind = 1
  · have hcv : chV e (.slice ap e.vPath.length cp) (.slice a (kidsOf e.vTree).length c) = .iface 94 (.agg #[.slice ap e.vPath.length cp, .string (strT e.vTree), .slice a (kidsOf e.vTree).length c]) := by simp [chV, hk1]
    rw [hcv]
    have hf : 0 < e.vPath.length ∧ treeB e.vTree = true := by have q := hform'.out; simp [formB, hk1] at q; exact ⟨q.1.2, q.2⟩
    obtain ⟨m1, p, hm0, hpp0⟩ := snoc_last hf.1
    have hm1 : Hid (e.vPath.length = m1 + 1) := hm0
    have hpp : Hid (e.vPath = e.vPath.take m1 ++ [p]) := hpp0
    have hRx : Hid (RightT e.vTree) := treeB_right hf.2
    have hput : Hid (putD e.vKind e.vTag e.vTree e.vPath d = if okP d (e.vPath.take m1) = true ∧ 0 ≤ p ∧ p ≤ ((kidsOf (endP d (e.vPath.take m1))).length : Int) then some (setP d (e.vPath.take m1) (mkT (strT (endP d (e.vPath.take m1))) (insK (kidsOf (endP d (e.vPath.take m1))) p.toNat e.vTree))) else none) := by
      show _ = _
      rw [hk1]
      exact (congrArg (fun z => putD 1 e.vTag e.vTree z d) hpp0).trans (putD_insert _ _ _ _ _)
    have hk : Hid (e.vKind = 1) := hk1
    clear hf hm0 hpp0 hcv hk1
    have hb1 : Hid (Below w.heap.size w (w.alloc (.cells #[.slice ap e.vPath.length cp, .string (strT e.vTree), .slice a (kidsOf e.vTree).length c] 94))) := (Below.refl _ _).alloc (Nat.le_refl _) _
    have hb1s : Hid (w.heap.size ≤ (w.alloc (.cells #[.slice ap e.vPath.length cp, .string (strT e.vTree), .slice a (kidsOf e.vTree).length c] 94)).heap.size) := hb1.out.size
    have hI := asI
    go_enter Try.func57, Try.ntmps57
    go_wp2_with fail
    refine (insertIn_any (n := n) (nx := m) (lo := lo) (hrow.out.below hb1.out) hl.out (TreeP_stays n _ _ _ _ _ (fun x hx => hb1.out.block x (hfl.out x hx)) htp.out) hnd.out hb.out hRh.out (hp.out.below intAt_stays hb1.out) (seqAt_take (hp.out.below intAt_stays hb1.out) (by rw [hm1.out]; omega)) hm1.out (seqAt_cap hp.out) hpp.out (ht.out.below hb1.out) hRx.out).mono ?_
    rintro e1 w2 h
    rcases h with ⟨h1, h2, h3, rfl, hT0, hO0⟩ | ⟨hno0, rfl, hB0⟩
    · have hc : Hid (okP d (e.vPath.take m1) = true ∧ 0 ≤ p ∧ p ≤ ((kidsOf (endP d (e.vPath.take m1))).length : Int)) := ⟨h1, h2, h3⟩
      have hT : Hid _ := hT0.back hb1s.out
      have hO : Hid (Out (R :: fs) w w2) := (out_of_below hb1.out).trans hO0
      clear h1 h2 h3 hT0 hO0
      go_wp2_with fail
      go_ret2
      exact Or.inl ⟨_, _, by rw [hput.out, if_pos hc.out], rfl, Or.inl ⟨hk.out, rfl⟩, hT.out, hO.out⟩
    · have hno : Hid (¬ (okP d (e.vPath.take m1) = true ∧ 0 ≤ p ∧ p ≤ ((kidsOf (endP d (e.vPath.take m1))).length : Int))) := hno0
      clear hno0
      have hB : Hid (Below w.heap.size w w2) := hb1.out.trans (hB0.mono hb1.out.size)
      clear hB0
      go_wp2_with fail
      go_ret2
      exact Or.inr ⟨by rw [hput.out, if_neg hno.out], rfl, hB.out⟩
  by_cases hk2 : e.vKind = 2
  · have hcv : chV e (.slice ap e.vPath.length cp) (.slice a (kidsOf e.vTree).length c) = .iface 92 (.agg #[.slice ap e.vPath.length cp]) := by simp [chV, hk2]
    rw [hcv]
    have hf : 0 < e.vPath.length := by have q := hform'.out; simp [formB, hk2] at q; exact q.1.2
    obtain ⟨m1, p, hm0, hpp0⟩ := snoc_last hf
    have hm1 : Hid (e.vPath.length = m1 + 1) := hm0
    have hpp : Hid (e.vPath = e.vPath.take m1 ++ [p]) := hpp0
    have hput : Hid (putD e.vKind e.vTag e.vTree e.vPath d = if okP d e.vPath = true then some (setP d (e.vPath.take m1) (mkT (strT (endP d (e.vPath.take m1))) ((kidsOf (endP d (e.vPath.take m1))).eraseIdx p.toNat))) else none) := by
      show _ = _
      rw [hk2]
      have q := (congrArg (fun z => putD 2 e.vTag e.vTree z d) hpp0).trans (putD_delete _ _ _ _ _)
      rw [← hpp0] at q
      exact q
    have hk : Hid (e.vKind = 2) := hk2
    clear hf hm0 hpp0 hcv hk1 hk2
    have hb1 : Hid (Below w.heap.size w (w.alloc (.cells #[.slice ap e.vPath.length cp] 92))) := (Below.refl _ _).alloc (Nat.le_refl _) _
    have hb1s : Hid (w.heap.size ≤ (w.alloc (.cells #[.slice ap e.vPath.length cp] 92)).heap.size) := hb1.out.size
    have hDI := noDI
    have hD := asD
    go_enter Try.func57, Try.ntmps57
    go_wp2_with fail
    refine (deleteIn_any (n := n) (lo := lo) (p := p) (hrow.out.below hb1.out) hl.out (TreeO_stays n _ _ _ _ _ (fun x hx => hb1.out.block x (hfl.out x hx)) (TreeP.toO _ _ _ _ _ htp.out)) hnd.out hb.out (hp.out.below intAt_stays hb1.out) (seqAt_take (hp.out.below intAt_stays hb1.out) (by rw [hm1.out]; omega)) hm1.out (seqAt_cap hp.out) hpp.out).mono ?_
    rintro e1 w2 h
    rcases h with ⟨h1, k1, fi, n3, rfl, ht3, _, hfi0, hT0, hO0⟩ | ⟨hno0, rfl, hB0⟩
    · have hc : Hid (okP d e.vPath = true) := h1
      have hT : Hid _ := hT0.back hb1s.out
      have hO : Hid (Out (R :: fs) w w2) := (out_of_below hb1.out).trans hO0
      have ht3' : Hid _ := ht3
      have hfi : Hid (∀ b ∈ fi, b ∈ fs) := hfi0
      clear h1 hT0 hO0 ht3 hfi0
      go_wp2_with fail
      go_ret2
      exact Or.inl ⟨_, _, by rw [hput.out, if_pos hc.out], rfl, Or.inr (Or.inl ⟨hk.out, hc.out, k1, fi, n3, rfl, ht3'.out, hfi.out⟩), hT.out, hO.out⟩
    · have hno : Hid (¬ okP d e.vPath = true) := by show ¬ _; rw [hno0]; simp
      clear hno0
      have hB : Hid (Below w.heap.size w w2) := hb1.out.trans (hB0.mono hb1.out.size)
      clear hB0
      go_wp2_with fail
      go_ret2
      exact Or.inr ⟨by rw [hput.out, if_neg hno.out], rfl, hB.out⟩
  by_cases hk3 : e.vKind = 3
  · have hcv : chV e (.slice ap e.vPath.length cp) (.slice a (kidsOf e.vTree).length c) = .iface 89 (.agg #[.slice ap e.vPath.length cp, .string e.vTag]) := by simp [chV, hk3]
    rw [hcv]
    have hput : Hid (putD e.vKind e.vTag e.vTree e.vPath d = if okP d e.vPath = true then some (setP d e.vPath (mkT e.vTag (kidsOf (endP d e.vPath)))) else none) := by
      show _ = _
      rw [hk3]
      exact putD_rename _ _ _ _
    have hk : Hid (e.vKind = 3) := hk3
    clear hcv hk1 hk2 hk3
    have hb1 : Hid (Below w.heap.size w (w.alloc (.cells #[.slice ap e.vPath.length cp, .string e.vTag] 89))) := (Below.refl _ _).alloc (Nat.le_refl _) _
    have hb1s : Hid (w.heap.size ≤ (w.alloc (.cells #[.slice ap e.vPath.length cp, .string e.vTag] 89)).heap.size) := hb1.out.size
    have hRI := noRI
    have hRD := noRD
    have hR := asR
    go_enter Try.func57, Try.ntmps57
    go_wp2_with fail
    refine (renameIn_any (n := n) (lo := lo) (hrow.out.below hb1.out) hl.out (TreeO_stays n _ _ _ _ _ (fun x hx => hb1.out.block x (hfl.out x hx)) (TreeP.toO _ _ _ _ _ htp.out)) hnd.out hb.out (hp.out.below intAt_stays hb1.out) htg.out).mono ?_
    rintro e1 w2 h
    rcases h with ⟨h1, rfl, hT0, hO0⟩ | ⟨hno0, rfl, hB0⟩
    · have hc : Hid (okP d e.vPath = true) := h1
      have hT : Hid _ := hT0.back hb1s.out
      have hO : Hid (Out (R :: fs) w w2) := (out_of_below hb1.out).trans hO0
      clear h1 hT0 hO0
      go_wp2_with fail
      go_ret2
      exact Or.inl ⟨_, _, by rw [hput.out, if_pos hc.out], rfl, Or.inr (Or.inr ⟨hk.out, hc.out, rfl⟩), hT.out, hO.out⟩
    · have hno : Hid (¬ okP d e.vPath = true) := by show ¬ _; rw [hno0]; simp
      clear hno0
      have hB : Hid (Below w.heap.size w w2) := hb1.out.trans (hB0.mono hb1.out.size)
      clear hB0
      go_wp2_with fail
      go_ret2
      exact Or.inr ⟨by rw [hput.out, if_neg hno.out], rfl, hB.out⟩
  have q := hform'.out
  simp [formB, hk1, hk2, hk3] at q
end Go.Proofs.Ytfncmndgdomjiaa
