/- listCopy of whole numbers, walked: a copy that owns its memory. -/
import Derived.Test.YtndffcogddefiaaFillOver
import Derived.Test.YtndffcogddefiaaAppendRows
import Derived.Test.YtndffcogddefiaaRows
import Derived.WalkKit
namespace Go.Proofs.Ytndffcogddefiaa
open Go.RowKit
theorem infoI : ((Try.prog.info? 2).map fun i => (i.zero, i.size, i.bytes)) = some (some (.int .i64 0), 1, 8) := by kernel_rfl
theorem info_parts2 {P : Program} {T : TypeId} {z : Value} {s b : Nat} (h : ((P.info? T).map fun i => (i.zero, i.size, i.bytes)) = some (some z, s, b)) : ∃ i, P.info? T = some i ∧ i.zero = some z ∧ i.size = s ∧ i.bytes = b := by
  obtain ⟨i, hi, he⟩ := Option.map_eq_some_iff.1 h
  simp only [Prod.mk.injEq] at he
  exact ⟨i, hi, he.1, he.2.1, he.2.2⟩
theorem wpList_append_none2 {P : Program} {w : World} {ops : Array Oper} {rest : List Oper} {o : Oper} {a : Act} {Q : Exit → Act → World → Prop} (hgd : o.guard = none) (s x : Operand) (t e : TypeId) (i : TypeInfo)
    (ho : o.op = .call { callee := .builtin .append, args := #[s, x], argTypes := #[t, t] }) (ht : P.underlying t = some (.slice e)) (hi : P.info? e = some i) (hs : a.eval s = .slice none 0 0) (ad : Option Addr) (c : Nat) (hx : a.eval x = .slice ad 0 c)
    (h : wpList P ops Q rest (a.put o.dst (.slice none 0 0)) w) : wpList P ops Q (o :: rest) a w := by
  refine wpList_plain hgd fun K hK => ?_
  have hr := run_append_none (P := P) w t o.type e i ht hi ad c
  unfold Oper.wp execOp
  simp only [ho, resolve, invoke, builtin, Sem.run_bind, Sem.run_pure, Result.andThen_ok, List.map_toArray, List.map_cons, List.map_nil, hs, hx, hr]
  exact hK _ _ h
theorem ints_cells {w : World} {lo b off : Nat} {xs : List Int} (hc : ∀ i, (h : i < xs.length) → ∃ cs, cs.length = 1 ∧ Lie w b (off + i * 1) cs ∧ IntAt w lo cs xs[i]) : (∀ j u, (xs.map fun n => Value.int .i64 n)[j]? = some u → w.cell? ((⟨b, off, none⟩ : Addr).add j) = some u) ∧ ∀ x ∈ xs, InI x := by
  refine ⟨fun j u hj => ?_, fun x hx => ?_⟩
  · have hj' : j < xs.length := by
      rcases Nat.lt_or_ge j xs.length with q | q
      · exact q
      · rw [List.getElem?_eq_none (by simpa using q)] at hj; cases hj
    obtain ⟨cs, hcl, lie, hr⟩ := hc j hj'
    obtain ⟨rfl, _⟩ := hr
    have z := lie 0 (by simp)
    simp only [List.getElem?_cons_zero, Nat.add_zero, Nat.mul_one] at z
    rw [List.getElem?_map, List.getElem?_eq_getElem hj'] at hj
    simp only [Option.map_some, Option.some.injEq] at hj
    rw [← hj]
    unfold Addr.add
    by_cases e0 : j = 0
    · subst e0; simpa using z
    · rw [if_neg e0]; exact z
  · obtain ⟨i, hi, rfl⟩ := List.getElem_of_mem hx
    obtain ⟨cs, _, _, hr⟩ := hc i hi
    exact hr.2
/-- what a call that makes a list of numbers tells -/
def AnsI (w w' : World) (v : Value) (xs : List Int) : Prop := ∃ fs : List Nat, SeqOwn 1 IntOwn w' v xs fs ∧ fs.Nodup ∧ ∀ b ∈ fs, w.heap.size ≤ b
set_option maxHeartbeats 1000000 in
theorem listCopyI_row {w : World} {lo : Nat} {k : Value} {xs : List Int} (hk : SeqAt 1 IntAt w lo k xs) (hl : xs.length ≤ 1048576) :
    Calls Try.prog 72 #[k] w fun e w' => (∃ v, e = .returned v ∧ w'.ownsRow w.heap.size 2 1 v xs.length (xs.map fun n => Value.int .i64 n) ∧ ∀ x ∈ xs, InI x) ∧ Below w.heap.size w w' := by
  obtain ⟨a, cap, rfl, hm, hx⟩ := hk
  obtain ⟨iT, hiT0, heT0, heT1, heT2⟩ := info_parts2 infoI
  have hiT : Hid (Try.prog.info? 2 = some iT) := hiT0
  have heT : Hid (iT.zero = some (.int .i64 0) ∧ iT.size = 1 ∧ iT.bytes = 8) := ⟨heT0, heT1, heT2⟩
  clear hiT0 heT0 heT1 heT2
  by_cases h0 : xs.length = 0
  · obtain rfl := List.eq_nil_of_length_eq_zero h0
    clear hx hm h0 hl
    go_enter Try.func72, Try.ntmps72
    go_wp2_with (at_builtin; refine wpList_append_none2 rfl _ _ 27 2 iT rfl Try.underlying27 hiT.out rfl a cap rfl ?_)
    go_ret
    exact ⟨⟨_, rfl, World.ownsRow_nil _ _ _ _, by simp⟩, Below.refl _ _⟩
  obtain ⟨b, off, rfl, hlo, hbb, hc⟩ := hx (by omega)
  obtain ⟨q5, q6⟩ := ints_cells hc
  have q5' : Hid (∀ j u, (xs.map fun n => Value.int .i64 n)[j]? = some u → w.cell? ((⟨b, off, none⟩ : Addr).add j) = some u) := q5
  have q6' : Hid (∀ x ∈ xs, InI x) := q6
  clear hx hc q5 q6 hm
  go_enter Try.func72, Try.ntmps72
  go_wp2_with (at_builtin; refine wpList_append_own_at _ rfl _ _ 27 rfl w.heap.size 2 iT _ 1 8 Try.underlying27 hiT.out heT.out.1 heT.out.2.1 heT.out.2.2 rfl (by decide) _ 0 [] rfl (World.ownsRow_nil _ _ _ _) ⟨b, off, none⟩ xs.length cap (xs.map fun n => Value.int .i64 n) rfl (by simp) q5'.out (by intro u hu; obtain ⟨q, _, rfl⟩ := List.mem_map.1 hu; rfl) (by unfold maxLen; omega) (by omega) (Nat.le_refl _) ?_; intro v w1 hown hgrow hnil hat)
  have hown' : Hid (w1.ownsRow w.heap.size 2 1 v (0 + xs.length) ([] ++ xs.map fun n => Value.int .i64 n)) := hown
  have hb1 : Hid (Below w.heap.size w w1) := (Below.refl _ _).grown hgrow (Nat.le_refl _) (fun k e => by cases e)
  clear hown hgrow hnil hat
  go_ret
  have ho := hown'.out
  rw [Nat.zero_add, List.nil_append] at ho
  exact ⟨⟨_, rfl, ho, q6'.out⟩, hb1.out⟩
theorem listCopyI_any {w : World} {lo : Nat} {k : Value} {xs : List Int} (hk : SeqAt 1 IntAt w lo k xs) (hl : xs.length ≤ 1048576) :
    Calls Try.prog 72 #[k] w fun e w' => (∃ v, e = .returned v ∧ AnsI w w' v xs) ∧ Below w.heap.size w w' :=
  (listCopyI_row hk hl).mono fun e w' ⟨⟨v, he, ho, hi⟩, hb⟩ => by
    obtain ⟨fs, hs, hlo2⟩ := seqOwn_of_row ho hi
    exact ⟨⟨v, he, fs, hs, hs.nodup, hlo2⟩, hb⟩
end Go.Proofs.Ytndffcogddefiaa
namespace Go.Proofs.Ytndffcogddefiaa
open Go.RowKit
set_option maxHeartbeats 1000000 in
theorem pathTo_any {w : World} {lo : Nat} {k : Value} {p : List Int} {i : Int} (hk : SeqAt 1 IntAt w lo k p) (hl : p.length ≤ 1048576) (hi : InI i) :
    Calls Try.prog 61 #[k, .int .i64 i] w fun e w' => (∃ v, e = .returned v ∧ AnsI w w' v (p ++ [i])) ∧ Below w.heap.size w w' := by
  obtain ⟨iT, hiT0, heT0, heT1, heT2⟩ := info_parts2 infoI
  have hiT : Hid (Try.prog.info? 2 = some iT) := hiT0
  have heT : Hid (iT.zero = some (.int .i64 0) ∧ iT.size = 1 ∧ iT.bytes = 8) := ⟨heT0, heT1, heT2⟩
  have hk' : Hid (SeqAt 1 IntAt w lo k p) := hk
  obtain ⟨a, cap, rfl⟩ := hk.form
  have hi' : Hid (InI i) := hi
  clear hiT0 heT0 heT1 heT2 hk hi
  go_enter Try.func61, Try.ntmps61
  go_wp2_with fail
  refine (listCopyI_row hk'.out hl).mono ?_
  rintro e w1 ⟨⟨v, rfl, hown, hin⟩, hb1⟩
  have hown' : Hid (w1.ownsRow w.heap.size 2 1 v p.length (p.map fun n => Value.int .i64 n)) := hown
  have hin' : Hid (∀ x ∈ p, InI x) := hin
  have hb1' : Hid (Below w.heap.size w w1) := hb1
  have hz1 := hb1.size
  clear hown hin hb1
  have hrow : Hid ((w1.alloc (.cells #[.int .i64 i] 2)).ownsRow w.heap.size 2 1 v p.length (p.map fun n => Value.int .i64 n)) := row_below hown'.out ((Below.refl _ _).alloc (Nat.le_refl _) _)
  go_wp2_with (at_builtin; refine wpList_append_own _ rfl _ _ 27 rfl w.heap.size 2 iT _ 1 8 Try.underlying27 hiT.out heT.out.1 heT.out.2.1 heT.out.2.2 rfl (by decide) _ p.length (p.map fun n => Value.int .i64 n) rfl hrow.out ⟨w1.heap.size, 0, none⟩ 1 1 [.int .i64 i] rfl rfl (by intro q u hq; match q, hq with | 0, hq => (simp at hq; subst hq; simp [Addr.add]) | q + 1, hq => simp at hq) (by intro u hu; simp at hu; subst hu; rfl) (by unfold maxLen; omega) (by omega) (by simp; omega) ?_; intro v2 w2 hown2 hgrow2 hnil2)
  have hown2' : Hid (w2.ownsRow w.heap.size 2 1 v2 (p.length + 1) ((p.map fun n => Value.int .i64 n) ++ [.int .i64 i])) := hown2
  have hb2 : Hid (Below w.heap.size w w2) := (hb1'.out.alloc hb1'.out.size _).grown hgrow2 (by simp; omega) (fun k e => own_block2 hown'.out k e)
  clear hown2 hgrow2 hnil2
  go_ret
  have ho : w2.ownsRow w.heap.size 2 1 v2 (p ++ [i]).length ((p ++ [i]).map fun n => Value.int .i64 n) := by
    have := hown2'.out
    rw [List.length_append, List.map_append]
    exact this
  obtain ⟨fs, hs, hlo2⟩ := seqOwn_of_row ho (fun x hx => by rcases List.mem_append.1 hx with q | q; (exact hin'.out x q); (simp at q; subst q; exact hi'.out))
  exact ⟨⟨_, rfl, fs, hs, hs.nodup, hlo2⟩, hb2.out⟩
end Go.Proofs.Ytndffcogddefiaa
