/- Bytes that a call owns, and what is appended to them: a text, or one byte. -/
import Derived.Test.YtlcddndpfhdakaaDoorEscPlain
import Derived.Test.YtlcddndpfhdakaaDoorRows
import Derived.WalkKit
import Derived.Lib.AppendStr
import Derived.Maps.AppendAt
namespace Go.Proofs.YtlcddndpfhdakaaDoor
open Go.RowKit
theorem infoB : ((Tryd.prog.info? 5).map fun i => (i.zero, i.bytes, i.size)) = some (some (.int .u8 0), 1, 1) := by kernel_rfl
/-- these bytes as cells -/
def byteCells (l : List UInt8) : List Value := l.map fun b => Value.int .u8 b.toNat
theorem byteCells_str (s : ByteArray) : Go.Lib.strCells s = byteCells s.data.toList := rfl
theorem byteCells_append (a b : List UInt8) : byteCells (a ++ b) = byteCells a ++ byteCells b := by simp [byteCells]
/-- v owns the bytes l, in a block from base on -/
def OwnB (w : World) (base : Nat) (v : Value) (l : List UInt8) : Prop := w.ownsRow base 5 1 v l.length (byteCells l)
/-- from w to w' only v's own row was written; v' lies in that row or in a new one -/
def Goes (w : World) (v : Value) (w' : World) (v' : Value) : Prop := w.grownBy w' v.ownBlock ∧ (v'.ownBlock = v.ownBlock ∨ ∃ g, v'.ownBlock = some g ∧ w.heap.size ≤ g)
theorem Goes.refl (w : World) (v : Value) : Goes w v w v := ⟨⟨rfl, rfl, rfl, Nat.le_refl _, fun _ _ _ => rfl⟩, .inl rfl⟩
theorem Goes.trans {w w1 w2 : World} {v v1 v2 : Value} (h : Goes w v w1 v1) (k : Goes w1 v1 w2 v2) : Goes w v w2 v2 := by
  obtain ⟨g, p⟩ := h
  obtain ⟨g', p'⟩ := k
  have hs := g.size
  refine ⟨⟨g'.os.trans g.os, g'.tape.trans g.tape, g'.output.trans g.output, Nat.le_trans g.size g'.size, fun b hb hne => ?_⟩, ?_⟩
  · refine (g'.block b (by omega) ?_).trans (g.block b hb hne)
    rcases p with e | ⟨q, e, hq⟩
    · rw [e]; exact hne
    · rw [e]; intro h; injection h; omega
  · rcases p' with e | ⟨q, e, hq⟩
    · rw [e]; exact p
    · exact .inr ⟨q, e, by omega⟩
theorem Goes.alloc {w w1 : World} {v v1 : Value} (h : Goes w v w1 v1) (o : Obj) : Goes w v (w1.alloc o) v1 :=
  h.trans ⟨World.grownBy_alloc w1 o _, .inl rfl⟩
theorem Goes.below {w0 w w1 : World} {v v1 : Value} {l : List UInt8} (h : Goes w v w1 v1) (hb : Below w0.heap.size w0 w) (ho : OwnB w w0.heap.size v l) : Below w0.heap.size w0 w1 := by
  refine hb.grown h.1 hb.size fun k hk => ?_
  rcases ho.2 with ⟨rfl, _⟩ | ⟨g, cap, cur, rfl, hg, _⟩
  · cases hk
  · simp [Value.ownBlock] at hk; omega
theorem OwnB.lt {w : World} {base : Nat} {v : Value} {l : List UInt8} (h : OwnB w base v l) {g : Nat} (e : v.ownBlock = some g) : g < w.heap.size := by
  rcases h.2 with ⟨rfl, _⟩ | ⟨g', cap, cur, rfl, hg, hh, _⟩
  · cases e
  · simp [Value.ownBlock] at e
    subst e
    rcases Nat.lt_or_ge g' w.heap.size with hlt | hge
    · exact hlt
    · rw [Array.getElem?_eq_none hge] at hh; cases hh
theorem OwnB.alloc {w : World} {base : Nat} {v : Value} {l : List UInt8} (h : OwnB w base v l) (o : Obj) : OwnB (w.alloc o) base v l := World.ownsRow.alloc h o
theorem OwnB.below {w w' : World} {base : Nat} {v : Value} {l : List UInt8} (h : OwnB w base v l) (hb : Below w.heap.size w w') : OwnB w' base v l := by
  obtain ⟨h1, h2⟩ := id h
  refine ⟨h1, ?_⟩
  rcases h2 with q | ⟨g, cap, cur, e, hg, hh, r⟩
  · exact .inl q
  · have hlt : g < w.heap.size := by
      rcases Nat.lt_or_ge g w.heap.size with q | q
      · exact q
      · rw [Array.getElem?_eq_none q] at hh; cases hh
    exact .inr ⟨g, cap, cur, e, hg, (hb.block g hlt).trans hh, r⟩
theorem Goes.after {w w1 w2 : World} {v z : Value} (h : Goes w v w1 z) (hb : Below w1.heap.size w1 w2) : Goes w v w2 z :=
  h.trans ⟨⟨hb.os, hb.tape, hb.output, hb.size, fun b h1 _ => hb.block b h1⟩, .inl rfl⟩
theorem run_append_at (base : Nat) (w : World) (v : Value) (l : List UInt8) (s : ByteArray) (ho : OwnB w base v l) (hl : l.length + s.size ≤ 16777216) (hbase : base ≤ w.heap.size) (ty : TypeId) :
    ∃ v' w', (Builtin.append_ #[22, 9] ty #[v, .string s]).run Tryd.prog w = .ok v' w' ∧ OwnB w' base v' (l ++ s.data.toList) ∧ Goes w v w' v' := by
  obtain ⟨i, hi, he⟩ := Option.map_eq_some_iff.1 infoB
  simp only [Prod.mk.injEq] at he
  have hm : l.length + s.size ≤ maxLen := by unfold maxLen; omega
  obtain ⟨v', w', hr, h2, h3, h4⟩ := Go.Lib.run_append_own_string (P := Tryd.prog) w base 22 9 ty 5 i Tryd.underlying22 Tryd.underlying9 hi he.1 he.2.2 he.2.1 v l.length (byteCells l) ho s hm (by omega) hbase
  refine ⟨v', w', hr, ?_, h3, ?_⟩
  · have : (l ++ s.data.toList).length = l.length + s.size := by simp
    unfold OwnB
    rw [this, byteCells_append]; exact h2
  · rcases ho.2 with ⟨rfl, hn⟩ | ⟨g, cap, cur, rfl, hbg, hg, hnc, hcm, hcs, htake⟩
    · by_cases hz0 : s.size = 0
      · rw [h4.2 ⟨rfl, hz0⟩]; exact .inl rfl
      have hr2 := run_append_nil_string (P := Tryd.prog) w 22 9 ty 5 i (.int .u8 0) Tryd.underlying22 Tryd.underlying9 hi he.1 s (by omega) (by omega) (by rw [he.2.1]; omega)
      rw [hr2] at hr
      injection hr with e1 e2
      subst e1
      exact .inr ⟨w.heap.size, rfl, Nat.le_refl _⟩
    · by_cases hroom : l.length + s.size ≤ cap
      · have hr2 := Go.Lib.run_append_room_string (P := Tryd.prog) w 22 9 ty 5 i Tryd.underlying22 Tryd.underlying9 hi he.2.2 g l.length cap cur hg s hroom (by omega)
        rw [hr2] at hr
        injection hr with e1 e2
        subst e1
        exact .inl rfl
      · have holds : ∀ j u, (byteCells l)[j]? = some u → w.cell? ((⟨g, 0, none⟩ : Addr).add j) = some u := World.ownsRow.cells (g := g) ho rfl
        have hr2 := Go.Lib.run_append_grow_string (P := Tryd.prog) w 22 9 ty 5 i (.int .u8 0) Tryd.underlying22 Tryd.underlying9 hi he.1 ⟨g, 0, none⟩ l.length cap (byteCells l) (by rw [he.2.2]; simp [byteCells]) holds s (by omega) (by omega) (by rw [he.2.1]; exact growslice_fits (by omega) (by omega))
        rw [hr2] at hr
        injection hr with e1 e2
        subst e1
        exact .inr ⟨w.heap.size, rfl, Nat.le_refl _⟩
theorem wpList_append_at {ops : Array Oper} {rest : List Oper} {o : Oper} {a : Act} {Q : Exit → Act → World → Prop} {w : World} (hgd : o.guard = none) (sl x : Operand)
    (hop : o.op = .call { callee := .builtin .append, args := #[sl, x], argTypes := #[22, 9] }) (base : Nat) (v : Value) (l : List UInt8) (s : ByteArray) (hs : a.eval sl = v) (hx : a.eval x = .string s)
    (ho : OwnB w base v l) (hl : l.length + s.size ≤ 16777216) (hbase : base ≤ w.heap.size)
    (h : ∀ v' w', OwnB w' base v' (l ++ s.data.toList) → Goes w v w' v' → wpList Tryd.prog ops Q rest (a.put o.dst v') w') : wpList Tryd.prog ops Q (o :: rest) a w := by
  refine wpList_plain hgd fun K hK => ?_
  obtain ⟨v', w', hr, h2, h3⟩ := run_append_at base w v l s ho hl hbase o.type
  unfold Oper.wp execOp
  simp only [hop, resolve, invoke, builtin, Sem.run_bind, Sem.run_pure, Result.andThen_ok, List.map_toArray, List.map_cons, List.map_nil, hs, hx, hr]
  exact hK _ _ (h v' w' h2 h3)
theorem wpList_append_one {ops : Array Oper} {rest : List Oper} {o : Oper} {a : Act} {Q : Exit → Act → World → Prop} {w : World} (hgd : o.guard = none) (sl x : Operand)
    (hop : o.op = .call { callee := .builtin .append, args := #[sl, x], argTypes := #[22, 22] }) (base : Nat) (v : Value) (l : List UInt8) (c : UInt8) (hs : a.eval sl = v) (hx : a.eval x = .slice (some ⟨w.heap.size, 0, none⟩) 1 1)
    (ho : OwnB w base v l) (hl : l.length + 1 ≤ 16777216) (hbase : base ≤ w.heap.size)
    (h : ∀ v' w', OwnB w' base v' (l ++ [c]) → Goes w v w' v' → wpList Tryd.prog ops Q rest (a.put o.dst v') w') : wpList Tryd.prog ops Q (o :: rest) a (w.alloc (.cells #[.int .u8 c.toNat] 5)) := by
  obtain ⟨i, hi, he⟩ := Option.map_eq_some_iff.1 infoB
  simp only [Prod.mk.injEq] at he
  refine wpList_append_own_at _ hgd sl x 22 hop base 5 i (.int .u8 0) 1 1 Tryd.underlying22 hi he.1 he.2.2 he.2.1 rfl (by decide) v l.length (byteCells l) hs (ho.alloc _) ⟨w.heap.size, 0, none⟩ 1 1 [.int .u8 c.toNat] hx rfl (cell_one_new _ _ _) (by simp [Value.oneCell']) (by unfold maxLen; omega) (by omega) (by simp; omega) ?_
  intro v' w' h1 h2 _ h4
  refine h v' w' ?_ ?_
  · unfold OwnB
    rw [List.length_append, byteCells_append]; exact h1
  · refine ⟨(World.grownBy_alloc w _ _).trans h2, ?_⟩
    rcases h4 with e | e
    · exact .inl e
    · exact .inr ⟨_, e, by simp⟩
theorem run_convert_bytes_none (w : World) : (convert 22 9 (.slice none 0 0)).run Tryd.prog w = .ok (.string ⟨#[]⟩) w := by kernel_rfl
end Go.Proofs.YtlcddndpfhdakaaDoor
