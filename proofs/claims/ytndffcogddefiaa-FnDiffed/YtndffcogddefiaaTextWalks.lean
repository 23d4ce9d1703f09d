/- The text of a tree: plain facts. -/
import Derived.Test.YtndffcogddefiaaOkWalks
import Derived.Test.YtndffcogddefiaaRows
import Derived.WalkKit
import Derived.Lib.AppendStr
import Derived.Laws.IdiomStrings
namespace Go.Proofs.Ytndffcogddefiaa
theorem ba_app (a b : ByteArray) : (a ++ b).data.toList = a.data.toList ++ b.data.toList := by simp
theorem ba_size (a b : ByteArray) : (a ++ b).size = a.size + b.size := by simp
theorem ba_len (a : ByteArray) : a.data.toList.length = a.size := by simp
theorem ba_eq {a b : ByteArray} (h : a.data.toList = b.data.toList) : a = b := by
  cases a; cases b; simp at h; rw [h]
/-- the texts of all these, one behind the other -/
def textK {H : Type} (f : DataW H → List UInt8) : List (DataW H) → List UInt8
  | [] => []
  | d :: ds => f d ++ textK f ds
def headT {H : Type} (d : DataW H) : List UInt8 := [60] ++ tagOf d ++ [62]
def footT {H : Type} (d : DataW H) : List UInt8 := [60, 47] ++ tagOf d ++ [62]
/-- the text of a tree -/
def textD {H : Type} : Nat → DataW H → List UInt8
  | 0, _ => []
  | n + 1, d => headT d ++ textK (textD n) (kidsOf d) ++ footT d
theorem textK_append {H : Type} (f : DataW H → List UInt8) (a b : List (DataW H)) : textK f (a ++ b) = textK f a ++ textK f b := by
  induction a with
  | nil => rfl
  | cons d a ih => simp [textK, ih]
theorem textK_take {H : Type} (f : DataW H → List UInt8) (ds : List (DataW H)) (j : Nat) (h : j < ds.length) : textK f (ds.take (j + 1)) = textK f (ds.take j) ++ f (nth ds j) := by
  rw [List.take_succ_eq_append_getElem h, textK_append]
  simp [textK, nth, List.getD, List.getElem?_eq_getElem h]
theorem textK_take_all {H : Type} (f : DataW H → List UInt8) (ds : List (DataW H)) (j : Nat) (h : ¬ j < ds.length) : textK f (ds.take j) = textK f ds := by
  rw [List.take_of_length_le (by omega)]
theorem textK_take_le {H : Type} (f : DataW H → List UInt8) (ds : List (DataW H)) (j : Nat) : (textK f (ds.take j)).length ≤ (textK f ds).length := by
  have : textK f ds = textK f (ds.take j) ++ textK f (ds.drop j) := by rw [← textK_append, List.take_append_drop]
  rw [this]; simp
theorem textK_kid_le {H : Type} (f : DataW H → List UInt8) (ds : List (DataW H)) (j : Nat) (h : j < ds.length) : (textK f (ds.take j)).length + (f (nth ds j)).length ≤ (textK f ds).length := by
  have h1 := textK_take_le f ds (j + 1)
  rw [textK_take f ds j h] at h1
  simpa using h1
theorem headT_length {H : Type} (d : DataW H) : (headT d).length = (tagOf d).length + 2 := by simp [headT]
theorem footT_length {H : Type} (d : DataW H) : (footT d).length = (tagOf d).length + 3 := by simp [footT]
theorem textD_length {H : Type} (n : Nat) (d : DataW H) : (textD (n + 1) d).length = 2 * (tagOf d).length + 5 + (textK (textD n) (kidsOf d)).length := by
  simp [textD, headT_length, footT_length]; omega
theorem nameB_length (l : List UInt8) (h : nameB l = true) : l.length ≤ 6 := by
  simp [nameB] at h; omega
theorem szF_text {H : Type} {f : DataW H → Int → Option Int} {g : DataW H → List UInt8} (hf : ∀ d room m, f d room = some m → ((g d).length : Int) ≤ 17 * m) :
    ∀ (ds : List (DataW H)) (room size m : Int), szF f ds room size = some m → ((textK g ds).length : Int) ≤ 17 * (m - size) := by
  intro ds
  induction ds with
  | nil => intro room size m h; simp [szF] at h; simp [textK]; omega
  | cons d ds ih =>
    intro room size m h
    unfold szF at h
    split at h
    · cases h
    · rename_i q hq
      have h1 := hf _ _ _ hq
      have h2 := ih room (size + q) m h
      simp [textK]; omega
theorem szD_text {H : Type} : ∀ (n : Nat) (d : DataW H) (room m : Int), szD n d room = some m → ((textD n d).length : Int) ≤ 17 * m := by
  intro n
  induction n with
  | zero => intro d room m h; simp [szD] at h
  | succ n ih =>
    intro d room m h
    unfold szD at h
    split at h
    · cases h
    · rename_i hc
      have h1 := szF_text ih _ room 1 m h
      have h2 := nameB_length (tagOf d) (by cases hb : nameB (tagOf d) <;> simp_all)
      rw [textD_length]; omega
end Go.Proofs.Ytndffcogddefiaa
namespace Go.Proofs.Ytndffcogddefiaa
open Go.RowKit
theorem infoB : ((Try.prog.info? 5).map fun i => (i.zero, i.bytes, i.size)) = some (some (.int .u8 0), 1, 1) := by kernel_rfl
/-- these bytes as cells -/
def byteCells (l : List UInt8) : List Value := l.map fun b => Value.int .u8 b.toNat
theorem byteCells_str (s : ByteArray) : Go.Lib.strCells s = byteCells s.data.toList := rfl
theorem byteCells_append (a b : List UInt8) : byteCells (a ++ b) = byteCells a ++ byteCells b := by simp [byteCells]
/-- v owns the bytes l, in a block from base on -/
def OwnB (w : World) (base : Nat) (v : Value) (l : List UInt8) : Prop := w.ownsRow base 5 1 v l.length (byteCells l)
/-- from w to w' only v's own row was written; v' lies in that row or in a new one -/
def Goes (w : World) (v : Value) (w' : World) (v' : Value) : Prop := w.grownBy w' v.ownBlock ∧ (v'.ownBlock = v.ownBlock ∨ ∃ g, v'.ownBlock = some g ∧ w.heap.size ≤ g)
theorem Goes.refl (w : World) (v : Value) : Goes w v w v := ⟨⟨rfl, rfl, rfl, Nat.le_refl _, fun _ _ _ => rfl⟩, .inl rfl⟩
theorem Goes.trans {w w1 w2 : World} {v v1 v2 : Value} (h : Goes w v w1 v1) (k : Goes w1 v1 w2 v2) : Goes w v w2 v2 := by
  obtain ⟨g, p⟩ := h
  obtain ⟨g', p'⟩ := k
  have hs := g.size
  refine ⟨⟨g'.os.trans g.os, g'.tape.trans g.tape, g'.output.trans g.output, Nat.le_trans g.size g'.size, fun b hb hne => ?_⟩, ?_⟩
  · refine (g'.block b (by omega) ?_).trans (g.block b hb hne)
    rcases p with e | ⟨q, e, hq⟩
    · rw [e]; exact hne
    · rw [e]; intro h; injection h; omega
  · rcases p' with e | ⟨q, e, hq⟩
    · rw [e]; exact p
    · exact .inr ⟨q, e, by omega⟩
theorem Goes.alloc {w w1 : World} {v v1 : Value} (h : Goes w v w1 v1) (o : Obj) : Goes w v (w1.alloc o) v1 :=
  h.trans ⟨World.grownBy_alloc w1 o _, .inl rfl⟩
theorem Goes.below {w0 w w1 : World} {v v1 : Value} {l : List UInt8} (h : Goes w v w1 v1) (hb : Below w0.heap.size w0 w) (ho : OwnB w w0.heap.size v l) : Below w0.heap.size w0 w1 := by
  refine hb.grown h.1 hb.size fun k hk => ?_
  rcases ho.2 with ⟨rfl, _⟩ | ⟨g, cap, cur, rfl, hg, _⟩
  · cases hk
  · simp [Value.ownBlock] at hk; omega
theorem OwnB.lt {w : World} {base : Nat} {v : Value} {l : List UInt8} (h : OwnB w base v l) {g : Nat} (e : v.ownBlock = some g) : g < w.heap.size := by
  rcases h.2 with ⟨rfl, _⟩ | ⟨g', cap, cur, rfl, hg, hh, _⟩
  · cases e
  · simp [Value.ownBlock] at e
    subst e
    rcases Nat.lt_or_ge g' w.heap.size with hlt | hge
    · exact hlt
    · rw [Array.getElem?_eq_none hge] at hh; cases hh
theorem OwnB.alloc {w : World} {base : Nat} {v : Value} {l : List UInt8} (h : OwnB w base v l) (o : Obj) : OwnB (w.alloc o) base v l := World.ownsRow.alloc h o
theorem run_append_at (base : Nat) (w : World) (v : Value) (l : List UInt8) (s : ByteArray) (ho : OwnB w base v l) (hs : 0 < s.size) (hl : l.length + s.size ≤ 1048576) (hbase : base ≤ w.heap.size) (ty : TypeId) :
    ∃ v' w', (Builtin.append_ #[22, 9] ty #[v, .string s]).run Try.prog w = .ok v' w' ∧ OwnB w' base v' (l ++ s.data.toList) ∧ Goes w v w' v' := by
  obtain ⟨i, hi, he⟩ := Option.map_eq_some_iff.1 infoB
  simp only [Prod.mk.injEq] at he
  have hm : l.length + s.size ≤ maxLen := by unfold maxLen; omega
  obtain ⟨v', w', hr, h2, h3, h4⟩ := Go.Lib.run_append_own_string (P := Try.prog) w base 22 9 ty 5 i Try.underlying22 Try.underlying9 hi he.1 he.2.2 he.2.1 v l.length (byteCells l) ho s hm (by omega) hbase
  refine ⟨v', w', hr, ?_, h3, ?_⟩
  · have : (l ++ s.data.toList).length = l.length + s.size := by simp
    unfold OwnB
    rw [this, byteCells_append]; exact h2
  · rcases ho.2 with ⟨rfl, hn⟩ | ⟨g, cap, cur, rfl, hbg, hg, hnc, hcm, hcs, htake⟩
    · have hr2 := run_append_nil_string (P := Try.prog) w 22 9 ty 5 i (.int .u8 0) Try.underlying22 Try.underlying9 hi he.1 s (by omega) (by omega) (by rw [he.2.1]; omega)
      rw [hr2] at hr
      injection hr with e1 e2
      subst e1
      exact .inr ⟨w.heap.size, rfl, Nat.le_refl _⟩
    · by_cases hroom : l.length + s.size ≤ cap
      · have hr2 := Go.Lib.run_append_room_string (P := Try.prog) w 22 9 ty 5 i Try.underlying22 Try.underlying9 hi he.2.2 g l.length cap cur hg s hroom (by omega)
        rw [hr2] at hr
        injection hr with e1 e2
        subst e1
        exact .inl rfl
      · have holds : ∀ j u, (byteCells l)[j]? = some u → w.cell? ((⟨g, 0, none⟩ : Addr).add j) = some u := World.ownsRow.cells (g := g) ho rfl
        have hr2 := Go.Lib.run_append_grow_string (P := Try.prog) w 22 9 ty 5 i (.int .u8 0) Try.underlying22 Try.underlying9 hi he.1 ⟨g, 0, none⟩ l.length cap (byteCells l) (by rw [he.2.2]; simp [byteCells]) holds s (by omega) (by omega) (by rw [he.2.1]; exact growslice_fits (by omega) (by omega))
        rw [hr2] at hr
        injection hr with e1 e2
        subst e1
        exact .inr ⟨w.heap.size, rfl, Nat.le_refl _⟩
theorem wpList_append_at {ops : Array Oper} {rest : List Oper} {o : Oper} {a : Act} {Q : Exit → Act → World → Prop} {w : World} (hgd : o.guard = none) (sl x : Operand)
    (hop : o.op = .call { callee := .builtin .append, args := #[sl, x], argTypes := #[22, 9] }) (base : Nat) (v : Value) (l : List UInt8) (s : ByteArray) (hs : a.eval sl = v) (hx : a.eval x = .string s)
    (ho : OwnB w base v l) (hp : 0 < s.size) (hl : l.length + s.size ≤ 1048576) (hbase : base ≤ w.heap.size)
    (h : ∀ v' w', OwnB w' base v' (l ++ s.data.toList) → Goes w v w' v' → wpList Try.prog ops Q rest (a.put o.dst v') w') : wpList Try.prog ops Q (o :: rest) a w := by
  refine wpList_plain hgd fun K hK => ?_
  obtain ⟨v', w', hr, h2, h3⟩ := run_append_at base w v l s ho hp hl hbase o.type
  unfold Oper.wp execOp
  simp only [hop, resolve, invoke, builtin, Sem.run_bind, Sem.run_pure, Result.andThen_ok, List.map_toArray, List.map_cons, List.map_nil, hs, hx, hr]
  exact hK _ _ (h v' w' h2 h3)
end Go.Proofs.Ytndffcogddefiaa
namespace Go.Proofs.Ytndffcogddefiaa
open Go.RowKit
def ApT {H : Type} (n : Nat) : Prop := ∀ (w0 w : World) (lo : Nat) (v t k : Value) (d : DataW H) (l : List UInt8), TreeAt w0 lo n t k d → Below w0.heap.size w0 w → OwnB w w0.heap.size v l → l.length + (textD n d).length ≤ 1048576 →
  Calls Try.prog 33 #[v, .agg #[t, k]] w fun e w' => ∃ v', e = .returned v' ∧ OwnB w' w0.heap.size v' (l ++ textD n d) ∧ Goes w v w' v'
/-- the box that the call laid is as it was -/
theorem box_kept {w wr : World} {v vj : Value} {t k : Value} {T : TypeId} {base : Nat} {l : List UInt8} (ho : OwnB w base v l) (h : Goes (w.alloc (.cells #[t, k] T)) v wr vj) :
    wr.cell? ⟨w.heap.size, 0, none⟩ = some t ∧ wr.cell? ⟨w.heap.size, 1, none⟩ = some k := by
  have e : wr.heap[w.heap.size]? = some (.cells #[t, k] T) := by
    refine (h.1.block w.heap.size (by simp) ?_).trans (MapKept.heap_alloc w _).1
    intro hh
    have := ho.lt hh.symm
    omega
  exact ⟨by rw [blk_cell e]; rfl, by rw [blk_cell e]; rfl⟩
set_option maxHeartbeats 400000 in
theorem apT_of {H : Type} (n : Nat) (h26 : ApT (H := H) n) : ApT (H := H) (n + 1) := by
  intro w0 w lo v t k d l ht hbw ho hlen
  obtain ⟨⟨s, rfl, hs, htag⟩, hrow⟩ := ht
  obtain ⟨a, cap, rfl, hm, hx⟩ := hrow
  have hx' : Hid _ := hx
  unfold maxLen at hm
  have h26' : Hid (ApT (H := H) n) := h26
  have htag' : Hid _ := htag
  have hts : (tagOf d).length = s.size := by rw [htag]; simp
  have hL := textD_length n d
  have hd1 : ¬ 9223372036854775807 < 1 + s.size := by omega
  have hd2 : ¬ 9223372036854775807 < 1 + s.size + 1 := by omega
  have hd3 : ¬ 9223372036854775807 < 2 + s.size := by omega
  have hd4 : ¬ 9223372036854775807 < 2 + s.size + 1 := by omega
  have hlen' : Hid (l.length + (2 * s.size + 5 + (textK (textD n) (kidsOf d)).length) ≤ 1048576) := by show _ ≤ _; omega
  have ho' : Hid _ := ho
  have hbw' : Hid _ := hbw
  have hbz : w0.heap.size ≤ w.heap.size := hbw.size
  clear hs h26 hx htag hL hts hlen ho hbw
  go_enter Try.func33, Try.ntmps33
  go_wp2_with (at_builtin; refine wpList_append_at rfl _ _ rfl w0.heap.size v l _ rfl rfl (ho'.out.alloc _) ?c1 ?c2 ?c3 ?_)
  case c1 => rw [ba_size, ba_size]; exact Nat.succ_pos _
  case c2 =>
    have := hlen'.out
    rw [ba_size, ba_size]
    show l.length + (1 + s.size + 1) ≤ 1048576
    omega
  case c3 => simp; omega
  intro v1 w1 ho1 hg1
  have e1 : l ++ 60 :: (s.data.toList ++ [62]) = l ++ headT d := by rw [headT, htag'.out]; simp
  rw [e1] at ho1
  clear e1
  have ho1' : Hid _ := ho1
  have hg1' : Hid _ := hg1
  obtain ⟨c0, c1⟩ := box_kept ho'.out hg1
  clear ho1 hg1
  go_wp2_with fail
  go_loopw [0, 16] (fun z i wr => ∃ (j : Nat), j ≤ (kidsOf d).length ∧ i = .int .i64 j ∧ Hid (OwnB wr w0.heap.size z (l ++ headT d ++ textK (textD n) ((kidsOf d).take j))) ∧ Hid (Goes (w.alloc (.cells #[.string s, .slice a (kidsOf d).length cap] 26)) v wr z)) (fun _ i _ => (kidsOf d).length - (intOf i).toNat)
  case atStart => exact ⟨0, by omega, rfl, by show OwnB _ _ _ _; rw [List.take_zero, textK, List.append_nil]; exact ho1'.out, hg1'⟩
  case round =>
    obtain ⟨j, hj, rfl, hoj, hgj⟩ := hrel
    obtain ⟨c0, c1⟩ := box_kept ho'.out hgj.out
    have hbj : Below w0.heap.size w0 wr := Goes.below hgj.out (hbw'.out.alloc hbz _) (ho'.out.alloc _)
    have hl := hlen'.out
    have hhl := headT_length d
    have hts : (tagOf d).length = s.size := by rw [htag'.out]; simp
    by_cases hlt : j < (kidsOf d).length
    · obtain ⟨b, off, rfl, hlo, hbb, hc⟩ := hx'.out (by omega)
      obtain ⟨t', k', c3, c4, ht⟩ := hc j hlt
      have q1 : wr.cell? ⟨b, off + j * 2, none⟩ = some t' := (hbj.cell (p := ⟨b, off + j * 2, none⟩) hbb).trans c3
      have q2 : wr.cell? ⟨b, off + j * 2 + 1, none⟩ = some k' := (hbj.cell (p := ⟨b, off + j * 2 + 1, none⟩) hbb).trans c4
      obtain ⟨⟨s1, rfl⟩, a1, cap1, rfl⟩ := ht.form
      have ht' : Hid (TreeAt w0 lo n _ _ (nth (kidsOf d) j)) := ht
      have hkl := textK_kid_le (textD n) (kidsOf d) j hlt
      have hbd : Hid ((l ++ headT d ++ textK (textD n) ((kidsOf d).take j)).length + (textD n (nth (kidsOf d) j)).length ≤ 1048576) := by show _ ≤ _; simp only [List.length_append]; omega
      have hbz1 : w0.heap.size ≤ wr.heap.size := hbj.size
      have hbj' : Hid _ := hbj
      clear hc c3 c4 ht hx' hkl hl hhl hts hbj
      go_wp2_with fail
      refine (h26'.out w0 _ lo _ _ _ (nth (kidsOf d) j) _ ht'.out (hbj'.out.alloc hbz1 _) (hoj.out.alloc _) hbd.out).mono ?_
      rintro e w2 ⟨v2, rfl, ho2, hg2⟩
      have ho2' : Hid _ := ho2
      have hg2' : Hid _ := hg2
      clear ho2 hg2 q1 q2 c0 c1
      go_wp2_with fail
      go_roundw
      case rel => exact ⟨j + 1, by omega, by go_num, by show OwnB _ _ _ _; rw [textK_take _ _ _ hlt, ← List.append_assoc]; exact ho2'.out, (hgj.out.alloc _).trans hg2'.out⟩
      case measure => simp [intOf]; omega
    · have hka := textK_take_all (textD n) (kidsOf d) j hlt
      rw [hka] at hoj
      have hbd : Hid ((l ++ headT d ++ textK (textD n) (kidsOf d)).length + (2 + s.size + 1) ≤ 1048576) := by show _ ≤ _; simp only [List.length_append]; omega
      have hbz1 : w0.heap.size ≤ wr.heap.size := hbj.size
      clear hka hl hhl hts hbj
      go_wp2_with (at_builtin; refine wpList_append_at rfl _ _ rfl w0.heap.size _ (l ++ headT d ++ textK (textD n) (kidsOf d)) _ rfl rfl hoj.out ?c1 ?c2 hbz1 ?_)
      case c1 => rw [ba_size, ba_size]; exact Nat.succ_pos _
      case c2 =>
        have := hbd.out
        rw [ba_size, ba_size]
        exact this
      intro v2 w2 ho2 hg2
      have ho2' : Hid _ := ho2
      have hg2' : Hid _ := hg2
      clear ho2 hg2
      go_wp2_with fail
      go_ret
      refine ⟨_, rfl, ?_, ((Goes.refl w v).alloc _).trans (hgj.out.trans hg2'.out)⟩
      have e2 : l ++ textD (n + 1) d = l ++ (headT d ++ (textK (textD n) (kidsOf d) ++ 60 :: 47 :: (s.data.toList ++ [62]))) := by rw [textD, footT, htag'.out]; simp
      rw [e2]
      exact ho2'.out
theorem apT_all {H : Type} : ∀ n, ApT (H := H) n := by
  intro n
  induction n with
  | zero => exact fun _ _ _ _ _ _ _ _ h _ _ _ => h.elim
  | succ n ih => exact apT_of n ih
end Go.Proofs.Ytndffcogddefiaa
namespace Go.Proofs.Ytndffcogddefiaa
open Go.RowKit
/-- the text of a tree if it is right; else no byte -/
def textR {H : Type} (n : Nat) (d : DataW H) : ByteArray := if okB (szD n d 30) = true then ⟨(textD n d).toArray⟩ else ⟨#[]⟩
theorem textR_yes {H : Type} {n : Nat} {d : DataW H} (h : okB (szD n d 30) = true) : textR n d = ⟨(textD n d).toArray⟩ := by simp [textR, h]
theorem textR_no {H : Type} {n : Nat} {d : DataW H} (h : okB (szD n d 30) = false) : textR n d = ⟨#[]⟩ := by simp [textR, h]
theorem ok_text {H : Type} {n : Nat} {d : DataW H} (h : okB (szD n d 30) = true) : (textD n d).length ≤ 1048576 := by
  cases hq : szD n d 30 with
  | none => rw [hq] at h; cases h
  | some q =>
    have h1 := szD_text _ _ _ _ hq
    have h2 := szD_range _ _ _ _ hq
    omega
set_option maxHeartbeats 400000 in
theorem implTreeText_any {H : Type} {n : Nat} {w : World} {lo : Nat} {t k : Value} {d : DataW H} (ht : TreeAt w lo n t k d) :
    Calls Try.prog 12 #[.agg #[t, k]] w fun e w' => e = .returned (.string (textR n d)) ∧ Below w.heap.size w w' := by
  have hb0 : Below w.heap.size w (w.alloc (.cells #[t, k] 26)) := (Below.refl _ _).alloc (Nat.le_refl _) _
  have ht' : Hid (TreeAt (w.alloc (.cells #[t, k] 26)) lo n t k d) := ht.below hb0
  clear ht
  go_enter Try.func12, Try.ntmps12
  go_wp2_with fail
  refine (implTreeOk_any ht'.out).mono ?_
  rintro e w1 ⟨rfl, hb1⟩
  have hB1 : Below w.heap.size w w1 := hb0.trans (hb1.mono hb0.size)
  have ht1 : Hid (TreeAt w1 lo n t k d) := ht'.out.below hb1
  have c0 : w1.cell? ⟨w.heap.size, 0, none⟩ = some t := by rw [hb1.cell (by simp)]; simp [go_sem]
  have c1 : w1.cell? ⟨w.heap.size, 1, none⟩ = some k := by rw [hb1.cell (by simp)]; simp [go_sem]
  clear hb1
  cases hq : okB (szD n d 30)
  · have HQ : Hid _ := textR_no hq
    clear hq
    go_wp2_with fail
    go_ret
    exact ⟨by rw [HQ.out]; rfl, hB1⟩
  · have HQ : Hid _ := textR_yes hq
    have HL : Hid ((textD n d).length ≤ 1048576) := ok_text hq
    have HP : 0 < (textD n d).length := by
      match n, hq with
      | 0, hq => simp [szD, okB] at hq
      | n + 1, _ => rw [textD_length]; omega
    clear hq
    have ho : Hid (OwnB w1 w1.heap.size (.slice none 0 0) []) := World.ownsRow_nil w1 _ _ _
    go_wp2_with fail
    refine (apT_all n w1 w1 lo _ _ _ d [] ht1.out (Below.refl _ _) ho.out (by simpa using HL.out)).mono ?_
    rintro e w2 ⟨v2, rfl, ho2, hg2⟩
    have hB2 : Below w1.heap.size w1 w2 := hg2.below (Below.refl _ _) ho.out
    rw [List.nil_append] at ho2
    rcases ho2.2 with ⟨_, hn⟩ | ⟨g, cap, cur, rfl, hg, hh, _⟩
    · omega
    have hcv := run_convert_bytes_back (P := Try.prog) w2 22 9 5 ⟨g, 0, none⟩ cap (textD n d) Try.underlying22 Try.underlying5 Try.underlying9 (fun j hj => World.ownsRow.cells (g := g) ho2 rfl j _ (by simp [byteCells, List.getElem?_eq_getElem hj]))
    clear ho2 hg2 hh HP
    go_wp2_with fail
    go_ret
    exact ⟨by rw [HQ.out]; rfl, hB1.trans (hB2.mono hB1.size)⟩
end Go.Proofs.Ytndffcogddefiaa
