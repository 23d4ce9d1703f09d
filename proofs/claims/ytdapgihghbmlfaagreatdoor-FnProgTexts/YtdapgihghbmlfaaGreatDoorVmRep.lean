/- What slices.Repeat of one number returns: a new row of it. -/
import Derived.Test.YtdapgihghbmlfaaGreatDoorVmNexts
import Derived.Test.YtdapgihghbmlfaaGreatDoorVmMul
import Derived.Laws.Cover1
import Derived.Laws.CopyOwn
import Derived.Laws.CopyRow
import Derived.Laws.MakeOwn
import Derived.Deep.RegionHeld3
import Derived.Deep.RegionLaw
import Derived.Deep.DeepCutAuto
namespace Go.Proofs.YtdapgihghbmlfaaGreatDoor
open Go.RowKit
theorem infoI : ((Tryz.prog.info? 2).map fun i => (i.zero, i.bytes, i.size)) = some (some (.int .i64 0), 8, 1) := by kernel_rfl
theorem sizeI : (Tryz.prog.info? 2).map (·.size) = some 1 := by
  obtain ⟨i, hi, he⟩ := Option.map_eq_some_iff.1 infoI
  simp only [Prod.mk.injEq] at he
  rw [hi]; simp [he.2.2]
theorem run_newI (n : Nat) (h : n ≤ 1048576) (w : World) : Sem.run Tryz.prog (Instr.makeSlice 42 (.int .i64 (n : Int)) (.int .i64 (n : Int))) w = .ok (.slice (some ⟨w.heap.size, 0, none⟩) n n) (w.alloc (.cells (madeCells #[.int .i64 0] n) 2)) := by
  obtain ⟨i, hi, he⟩ := Option.map_eq_some_iff.1 infoI
  simp only [Prod.mk.injEq] at he
  have := run_make (P := Tryz.prog) w 42 2 i _ Tryz.underlying42 hi he.1 .i64 .i64 (n : Int) (n : Int) (by omega) (Int.le_refl _) (by rw [he.2.1]; omega) (by omega)
  rw [he.2.2] at this
  simpa [Value.cells] using this
theorem minus_one (m : Nat) : ∀ v ∈ List.replicate m (Value.int .i64 (-1)), v.oneCell' = true := by
  intro v hv
  rw [List.eq_of_mem_replicate hv]; rfl
theorem wrap_small {n : Int} (h1 : -1000 ≤ n) (h2 : n ≤ 1000) : IntKind.i64.wrap n = n := by simp [IntKind.wrap, IntKind.signed, IntKind.bits]; omega
theorem wpList_copy_eq {P : Program} {w : World} {ops : Array Oper} {rest : List Oper} {o : Oper} {a : Act} {Q : Exit → Act → World → Prop} (hgd : o.guard = none) (d s : Operand) (dT sT : TypeId)
    (ho : o.op = .call { callee := .builtin .copy, args := #[d, s], argTypes := #[dT, sT] }) (u v : Value) (hd : a.eval d = u) (hs : a.eval s = v) (r : Value) (w' : World) (hr : (Builtin.copy_ #[dT, sT] o.type #[u, v]).run P w = .ok r w')
    (h : wpList P ops Q rest (a.put o.dst r) w') : wpList P ops Q (o :: rest) a w := by
  refine wpList_plain hgd fun K hK => ?_
  unfold Oper.wp
  simp [execOp, ho, resolve, invoke, builtin, hd, hs, hr, Result.andThen]
  exact hK _ _ h
/-- in this block the first j are -1 -/
def Ones (w : World) (g n j : Nat) : Prop := ∃ cur : Array Value, w.heap[g]? = some (.cells cur 2 (0, 0)) ∧ cur.size = n ∧ cur.toList.take j = List.replicate j (.int .i64 (-1))
theorem ones_copy {w : World} {g n j m : Nat} (h : Ones w g n j) (hj : j ≤ n) (hm : m = Nat.min j (n - j)) (ty : TypeId) (c1 c2 : Nat) :
    ∃ w', (Builtin.copy_ #[42, 42] ty #[.slice (some ⟨g, j, none⟩) (n - j) c1, .slice (some ⟨g, 0, none⟩) j c2]).run Tryz.prog w = .ok (goInt m) w' ∧ Ones w' g n (j + m) ∧ (∀ k, k ≠ g → w'.heap[k]? = w.heap[k]?) ∧ w'.heap.size = w.heap.size ∧ w'.os = w.os ∧ w'.tape = w.tape ∧ w'.output = w.output := by
  obtain ⟨cur, h1, h2, h3⟩ := h
  have hmj : m ≤ j := by rw [hm]; exact Nat.min_le_left _ _
  have hmn : m ≤ n - j := by rw [hm]; exact Nat.min_le_right _ _
  have hc := run_copy_row (P := Tryz.prog) w 42 42 ty 2 g j (n - j) c1 ⟨g, 0, none⟩ j c2 cur 2 (List.replicate m (.int .i64 (-1))) Tryz.underlying42 sizeI h1 (by simpa using hm) (fun q v hq => by
      have hqm : q < m := by
        rcases Nat.lt_or_ge q m with e | e
        · exact e
        · rw [List.getElem?_eq_none (by simpa using e)] at hq; cases hq
      have e1 : cur.toList[q]? = some (.int .i64 (-1)) := by
        have : (cur.toList.take j)[q]? = some (.int .i64 (-1)) := by rw [h3, List.getElem?_replicate, if_pos (by omega)]
        rw [List.getElem?_take, if_pos (by omega)] at this
        exact this
      rw [List.getElem?_replicate, if_pos hqm] at hq
      obtain rfl := Option.some.inj hq
      have e2 : cur[q]? = some (.int .i64 (-1)) := by simpa using e1
      unfold Addr.add
      by_cases e0 : q = 0
      · subst e0; simp [World.cell?, h1, e2]
      · rw [if_neg e0]; simp [World.cell?, h1, e2]) (by simp; omega) (minus_one m)
  refine ⟨_, by simpa using hc, ⟨_, setRow_heap w g _ _ _ _ h1, ?_, ?_⟩, fun k hk => setRow_other w g k _ hk, by simp, rfl, rfl, rfl⟩
  · simp; omega
  · rw [h3, ← List.append_assoc, List.replicate_append_replicate]
    exact List.take_left' (by simp)
set_option maxRecDepth 100000 in
set_option maxHeartbeats 4000000 in
theorem repeat_any {w : World} {gx n : Nat} (hn1 : 1 ≤ n) (hn : n ≤ 20) (hx : w.cell? ⟨gx, 0, none⟩ = some (.int .i64 (-1))) (hgx : gx < w.heap.size) :
    Calls Tryz.prog 42 #[.slice (some ⟨gx, 0, none⟩) 1 1, .int .i64 (n : Int)] w fun e w' => (e = .returned (.slice (some ⟨w.heap.size, 0, none⟩) n n) ∧ Ones w' w.heap.size n n) ∧ Below w.heap.size w w' := by
  have hmk := run_newI n (by omega) w
  have hn' : Hid (n ≤ 20) := hn
  have hnew : Hid (∃ cur : Array Value, (w.alloc (.cells (madeCells #[.int .i64 0] n) 2)).heap[w.heap.size]? = some (.cells cur 2 (0, 0)) ∧ cur.size = n) := ⟨_, (MapKept.heap_alloc w _).1, size_madeCells _ _⟩
  have hb0 : Hid (Below w.heap.size w (w.alloc (.cells (madeCells #[.int .i64 0] n) 2))) := (Below.refl _ _).alloc (Nat.le_refl _) _
  have hs0 : Hid ((w.alloc (.cells (madeCells #[.int .i64 0] n) 2)).heap.size = w.heap.size + 1) := by show _ = _; simp
  have h0n : ¬ (n : Int) < 0 := by omega
  have hnm : decide ((9223372036854775807 : Int) < (n : Int)) = false := by simp; omega
  have hxx : Hid (w.cell? ⟨gx, 0, none⟩ = some (.int .i64 (-1))) := hx
  have hwr : IntKind.u64.wrap (n : Int) = n := by simp [IntKind.wrap, IntKind.signed, IntKind.bits]; omega
  have hwr2 : IntKind.i64.wrap (n : Int) = n := by simp [IntKind.wrap, IntKind.signed, IntKind.bits]; omega
  clear hx
  go_enter Tryz.func42, Tryz.ntmps42
  go_upto_region 7 with (go_at_call 59; refine (mul_any n hn'.out _).mono ?_; rintro e w' ⟨rfl, e9⟩; have e10 := e9.symm; clear e9; subst e10)
  clear hmk
  generalize hW : (w.alloc (.cells (madeCells #[.int .i64 0] n) 2)) = w1 at hnew hb0 hs0 ⊢
  obtain ⟨cur, hg, hcs⟩ := hnew.out
  have hc0 := run_copy_row (P := Tryz.prog) w1 42 42 3 2 w.heap.size 0 n n ⟨gx, 0, none⟩ 1 1 cur 2 [.int .i64 (-1)] Tryz.underlying42 sizeI hg (by simp only [Nat.min_def]; split <;> simp <;> omega) (fun j v hj => by
      match j, hj with
      | 0, hj => simp at hj; subst hj; simpa [Addr.add] using (hb0.out.cell (p := ⟨gx, 0, none⟩) hgx).trans hxx.out
      | j + 1, hj => simp at hj) (by simp; omega) (by simp [Value.oneCell'])
  have hones : Hid (Ones (w1.setRow w.heap.size (cur.toList.take 0 ++ [Value.int .i64 (-1)] ++ cur.toList.drop (0 + [Value.int .i64 (-1)].length)).toArray) w.heap.size n 1) := ⟨_, setRow_heap _ _ _ _ _ _ hg, by simp; omega, by simp⟩
  have hb1 : Hid (Below w.heap.size w (w1.setRow w.heap.size (cur.toList.take 0 ++ [Value.int .i64 (-1)] ++ cur.toList.drop (0 + [Value.int .i64 (-1)].length)).toArray)) := ⟨hb0.out.os, hb0.out.tape, hb0.out.output, by have := hb0.out.size; simpa using this, fun k hk => (setRow_other _ _ k _ (by omega)).trans (hb0.out.block k hk)⟩
  generalize (w1.setRow w.heap.size (cur.toList.take 0 ++ [Value.int .i64 (-1)] ++ cur.toList.drop (0 + [Value.int .i64 (-1)].length)).toArray) = w2 at hc0 hones hb1
  have hc1 : Hid ((Builtin.copy_ #[42, 42] 3 #[.slice (some ⟨w.heap.size, 0, none⟩) n n, .slice (some ⟨gx, 0, none⟩) 1 1]).run Tryz.prog w1 = .ok (.int .i64 1) w2) := hc0
  clear hc0 hg hcs hW hnew hb0 hnm h0n hwr hwr2
  go_wp2_with (simp only [hc1.out])
  go_loopw [8] (fun i wr => ∃ j : Nat, 1 ≤ j ∧ j ≤ n ∧ i = .int .i64 j ∧ Hid (Ones wr w.heap.size n j) ∧ Hid (Below w.heap.size w wr)) (fun i _ => n - (intOf i).toNat)
  case atStart => exact ⟨1, by omega, by omega, rfl, hones, hb1⟩
  case round =>
    obtain ⟨j, hj1, hj, rfl, hon, hbr⟩ := hrel
    by_cases hlt : j < n
    · have hlt' : (j : Int) < (n : Int) := by omega
      have hon1 : Ones wr.drew w.heap.size n j := hon.out
      obtain ⟨w3, hcp, hon3, hk3, hsz3, ho3, ht3, hp3⟩ := ones_copy hon1 (by omega) (m := Nat.min j (n - j)) rfl 3 (n - j) n
      have hon3' : Hid (Ones w3 w.heap.size n (j + Nat.min j (n - j))) := hon3
      have hb3 : Hid (Below w.heap.size w w3) := ⟨ho3.trans hbr.out.os, ht3.trans hbr.out.tape, hp3.trans hbr.out.output, by have := hbr.out.size; rw [hsz3]; exact this, fun k hk => (hk3 k (by omega)).trans (hbr.out.block k hk)⟩
      have hm1 : Hid (1 ≤ Nat.min j (n - j) ∧ j + Nat.min j (n - j) ≤ n) := ⟨Nat.le_min.2 ⟨by omega, by omega⟩, by have h : Nat.min j (n - j) ≤ n - j := Nat.min_le_right _ _; omega⟩
      generalize Nat.min j (n - j) = m at hcp hon3' hm1
      have hcp' : (Builtin.copy_ #[42, 42] 3 #[.slice (some ⟨w.heap.size, j, none⟩) (n - j) (n - j), .slice (some ⟨w.heap.size, 0, none⟩) j n]).run Tryz.prog wr.drew = .ok (.int .i64 (m : Int)) w3 := hcp
      clear hcp hon3 hk3 hsz3 ho3 ht3 hp3 hon1
      have hwj := wrap_small (n := (j : Int) + (m : Int)) (by omega) (by have := hm1.out; omega)
      go_wp2_with fail
      go_region
      go_wp2_with fail
      obtain ⟨hm2, hm3⟩ := hm1.out
      exact ⟨⟨j + m, by omega, hm3, by push_cast; rfl, hon3', hb3⟩, by simp [intOf]; omega⟩
    · obtain rfl : j = n := by omega
      go_wp2_with fail
      go_ret
      exact ⟨⟨rfl, hon.out⟩, hbr.out⟩
end Go.Proofs.YtdapgihghbmlfaaGreatDoor
