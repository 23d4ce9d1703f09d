/- A whole row of whole numbers appended onto a row that the call owns. -/
import Derived.Test.YtfncmndgdomjiaaOwnFill
import Derived.Deep.AppendSrc
import Derived.Laws.AppendOwn
import Derived.WalkKit
import Derived.MapKept
namespace Go.Proofs.Ytfncmndgdomjiaa
open Go.RowKit
theorem wpList_append_ints {P : Program} {w : World} {ops : Array Oper} {rest : List Oper} {o : Oper} {a : Act} {Q : Exit → Act → World → Prop} (hgd : o.guard = none) (s x : Operand) (t : TypeId)
    (ho : o.op = .call { callee := .builtin .append, args := #[s, x], argTypes := #[t, t] }) (base lo : Nat) (e : TypeId) (i : TypeInfo) (ht : P.underlying t = some (.slice e)) (hi : P.info? e = some i) (hz : i.zero = some (.int .i64 0)) (hsize : i.size = 1) (hby : i.bytes = 8)
    (v : Value) (n : Nat) (xs : List Value) (hs : a.eval s = v) (hv : v ≠ .slice none 0 0) (hown : w.ownsRow base e 1 v n xs) (k : Value) (ks : List Int) (hx : a.eval x = k) (hk : SeqAt 1 IntAt w lo k ks) (hl : n + ks.length ≤ 1099511627776) (hbase : base ≤ w.heap.size)
    (h : ∀ v' w', w'.ownsRow base e 1 v' (n + ks.length) (xs ++ ks.map fun n => .int .i64 n) → w.grownBy w' v.ownBlock → v' ≠ .slice none 0 0 → wpList P ops Q rest (a.put o.dst v') w') : wpList P ops Q (o :: rest) a w := by
  obtain ⟨ka, kc, rfl, hm, hc⟩ := hk
  cases ka with
  | none =>
    have h0 : ks.length = 0 := by
      rcases Nat.eq_zero_or_pos ks.length with q | q
      · exact q
      · obtain ⟨b, off, e, _⟩ := hc q; cases e
    have hks : ks = [] := List.eq_nil_of_length_eq_zero h0
    subst hks
    have hown' := hown
    rcases hown.2 with ⟨q, _⟩ | ⟨g, cap, cur, rfl, hg, hh, q1, q2, q3, q4⟩
    · exact absurd q hv
    · refine wpList_plain hgd fun K hK => ?_
      have hsrc : Src P i.size t (.slice none 0 kc) 0 [] w := Src.ofNil w ht kc
      have hrun := run_append_room_src (P := P) w t t o.type e i ht hi g 0 n cap (.slice none 0 kc) 0 [] hsrc (by omega) (by simp) (by simp)
      have hset : w.setCells g (0 + n * i.size) [] = w := rfl
      rw [hset] at hrun
      unfold Oper.wp
      simp only [List.length_nil] at hx
      simp [execOp, ho, resolve, invoke, builtin, hs, hx, hrun, Result.andThen]
      exact hK _ _ (h _ w (by simpa using hown') ⟨rfl, rfl, rfl, Nat.le_refl _, fun _ _ _ => rfl⟩ (by simp))
  | some ad =>
    refine wpList_append_own w hgd s x t ho base e i (.int .i64 0) 1 8 ht hi hz hsize hby rfl (by decide) v n xs hs hown ad ks.length kc (ks.map fun n => .int .i64 n) hx (by simp) (fun j u hj => ?_) (fun u hu => ?_) (by unfold maxLen; omega) (by omega) hbase (fun v' w' h1 h2 h3 => ?_)
    · have hj' : j < ks.length := by
        rcases Nat.lt_or_ge j ks.length with q | q
        · exact q
        · rw [List.getElem?_eq_none (by simpa using q)] at hj; cases hj
      obtain ⟨b, off, q, _, _, hcc⟩ := hc (by omega)
      injection q with q
      subst q
      obtain ⟨cs, hcl, lie, hr⟩ := hcc j hj'
      obtain ⟨rfl, _⟩ := hr
      have z := lie 0 (by simp)
      simp only [List.getElem?_cons_zero, Nat.add_zero, Nat.mul_one] at z
      rw [List.getElem?_map, List.getElem?_eq_getElem hj'] at hj
      simp only [Option.map_some, Option.some.injEq] at hj
      rw [← hj]
      unfold Addr.add
      by_cases e0 : j = 0
      · subst e0; simpa using z
      · rw [if_neg e0]; exact z
    · obtain ⟨q, _, rfl⟩ := List.mem_map.1 hu
      rfl
    · exact h v' w' h1 h2 (fun q => hv (h3.1 q).1)
theorem row_start {w : World} {B : Nat} (hB : B ≤ w.heap.size) : (w.alloc (.cells #[] 2)).ownsRow B 2 1 (.slice (some ⟨w.heap.size, 0, none⟩) 0 0) 0 [] :=
  ⟨rfl, Or.inr ⟨_, _, #[], rfl, hB, (MapKept.heap_alloc w _).1, Nat.le_refl _, Nat.zero_le _, rfl, rfl⟩⟩
theorem nonnil_row {w : World} {base e size n : Nat} {v : Value} {xs : List Value} (h : w.ownsRow base e size v n xs) (hv : v ≠ .slice none 0 0) : ∃ g cap, v = .slice (some ⟨g, 0, none⟩) n cap := by
  rcases h.2 with ⟨q, _⟩ | ⟨g, cap, _, q, _⟩
  · exact absurd q hv
  · exact ⟨g, cap, q⟩
end Go.Proofs.Ytfncmndgdomjiaa
