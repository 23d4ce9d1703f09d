/- What is written into an arena that is drawn: its first slot, or one more that is free. -/
import Derived.Test.YtcbomaflfjdmjaaArRs
namespace Go.Proofs.Ytcbomaflfjdmjaa
open Go.RowKit Go.Deep
theorem row_hi {w : World} {base base' e size n : Nat} {v : Value} {xs : List Value} (h : w.ownsRow base e size v n xs) (hb : ∀ g, v.ownBlock = some g → base' ≤ g) : w.ownsRow base' e size v n xs := by
  obtain ⟨h1, h2⟩ := h
  refine ⟨h1, ?_⟩
  rcases h2 with h2 | ⟨g, cap, cur, h3, h4, h5⟩
  · exact Or.inl h2
  · exact Or.inr ⟨g, cap, cur, h3, hb g (by rw [h3]; rfl), h5⟩
theorem seqOwn_of_rowS {w : World} {base : Nat} {v : Value} {xs : List Int} (h : w.ownsRow base 2 1 v xs.length (xs.map fun n => .int .i64 n)) (hx : ∀ x ∈ xs, InI x) : ∃ fs, SeqOwn 1 IntOwn w v xs fs ∧ ∀ b ∈ fs, v.ownBlock = some b := by
  obtain ⟨_, ho⟩ := h
  rcases ho with ⟨rfl, hn⟩ | ⟨g, cap, cur, rfl, hg, hh, h1, h2, h3, h4⟩
  · exact ⟨[], ⟨none, 0, by rw [hn], ⟨by omega, by omega⟩, Or.inl ⟨hn, rfl⟩⟩, by simp⟩
  · refine ⟨[g], ⟨_, _, rfl, ⟨Nat.le_trans h1 h2, h1⟩, Or.inr ⟨g, 0, rfl, cur, 2, xs.map fun _ => [], hh, by omega, by simp, by simp, by simp, fun i hi hi' => ⟨[.int .i64 xs[i]], rfl, fun m hm => ?_, rfl, hx _ (List.getElem_mem hi), by simp⟩⟩⟩, by simp [Value.ownBlock]⟩
    obtain rfl : m = 0 := by omega
    have e : (cur.toList.take (xs.length * 1))[i]? = some (.int .i64 xs[i]) := by rw [h4]; simp [hi]
    rw [List.getElem?_take_of_lt (by omega)] at e
    simpa using e
theorem ints_in {w : World} {lo : Nat} {k : Value} {xs : List Int} (h : SeqAt 1 IntAt w lo k xs) : ∀ v ∈ xs, InI v := by
  intro v hv
  obtain ⟨i, hi, rfl⟩ := List.getElem_of_mem hv
  obtain ⟨_, _, _, _, hx⟩ := h
  obtain ⟨b, off, _, _, _, hc⟩ := hx (by omega)
  obtain ⟨cs, _, _, hr⟩ := hc i hi
  exact hr.2
/-- its first slot, with one cell written -/
theorem AA.slot0 {w : World} {g : Nat} {a : Option Addr} {nn cap T d0 : Nat} {p0 : Option Addr} {k1 : Value} {x : ArenaD} {wr : World} (h : AA w g a nn cap T (.slice p0 x.vSlots.length d0) k1 x wr) (hl : 1 ≤ x.vSlots.length) :
    ∃ (b o : Nat) (s : SlotD), p0 = some ⟨b, o, none⟩ ∧ b ≠ T ∧ b < wr.heap.size ∧ b ≠ g ∧ wr.cell? ⟨b, o, none⟩ = some (.int .i64 s.vGen) ∧ wr.cell? ⟨b, o + 1, none⟩ = some (.bool s.vUsed) ∧ (∀ i, wr.frozen? ⟨b, i, none⟩ = false) ∧
      (∀ v, InI v → ∃ y : ArenaD, AA w g a nn cap T (.slice p0 x.vSlots.length d0) k1 y (wr.setCell ⟨b, o, none⟩ (.int .i64 v))) ∧ (∀ v : Bool, ∃ y : ArenaD, AA w g a nn cap T (.slice p0 x.vSlots.length d0) k1 y (wr.setCell ⟨b, o + 1, none⟩ (.bool v))) := by
  obtain ⟨h1, h2, h3, h4, h5, h6, ⟨f0, f1, ys, q1, q2, q3, q4, q5, q6⟩, h8⟩ := h
  obtain ⟨b, o, C, Tt, cs, fj, rfl, hrow, hcl, ⟨mB, mN, _, _⟩, hr, hclose⟩ := q1.step SlotOwn_stays SlotOwn_lt (j := 0) (by omega)
  have hQ := q3 b mB
  obtain ⟨rfl, r1, r2, rfl⟩ := hr
  have z0 := hrow.cell 0 rfl
  have z1 := hrow.cell 1 rfl
  simp only [Nat.zero_mul, Nat.add_zero] at z0 z1 hrow hclose
  have hgb : b ≠ g := by omega
  have hbl : b < wr.heap.size := hrow.lt
  have key : ∀ (m : Nat) (u : Value) (y : SlotD), (wr.setCell ⟨b, o + m, none⟩ u).heap.size = wr.heap.size → RowIs (wr.setCell ⟨b, o + m, none⟩ u) b o C Tt [.int .i64 y.vGen, .bool y.vUsed, .string y.vData] → InI y.vGen → y.vData.size ≤ maxLen → ∃ z : ArenaD, AA w g a nn cap T (.slice (some ⟨b, o, none⟩) x.vSlots.length d0) k1 z (wr.setCell ⟨b, o + m, none⟩ u) := fun m u y hs hrw i1 i2 => by
    have hout : Out [b] wr (wr.setCell ⟨b, o + m, none⟩ u) := (Out.refl _ _).set (by simp) _
    have hS := hclose _ _ y rfl hrw hout ⟨rfl, i1, i2, rfl⟩
    refine ⟨⟨x.vSlots.set 0 y, x.vFree⟩, h1.other (by omega) _, h2.keep (fun c q => set_other (by omega) _), ⟨h3.os, h3.tape, h3.output, by rw [hs]; exact h3.size, fun c hc hne => (set_other (by omega) _).trans (h3.block c hc hne)⟩, h4, by rw [hs]; exact h5, h6, ⟨f0, f1, ys, ?_, q2.stays intOwn_stays (fun c q => set_other (fun e => (q6 c (q4 c q)).2 (by rw [e]; exact mB)) _), q3, q4, row_keep q5 (fun c e => set_other (fun e2 => (q6 c e).2 (by rw [e2]; exact mB)) _), q6⟩, h8.other (by omega) _⟩
    exact hS
  refine ⟨b, o, x.vSlots[0], rfl, hQ.2, hbl, hgb, z0, z1, hrow.unfrozen, fun v hv => ?_, fun v => ?_⟩
  · exact key 0 (.int .i64 v) ⟨v, x.vSlots[0].vUsed, x.vSlots[0].vData⟩ (set_size _) (hrow.set (m := 0) (by simp) (.int .i64 v)) hv r2
  · exact key 1 (.bool v) ⟨x.vSlots[0].vGen, v, x.vSlots[0].vData⟩ (set_size _) (hrow.set (m := 1) (by simp) (.bool v)) r1 r2
/-- one more that is free -/
theorem AA.append {w : World} {g : Nat} {a : Option Addr} {nn cap T : Nat} {k0 k1 : Value} {x : ArenaD} {wr w4 w5 : World} {ys : List Value} (h : AA w g a nn cap T k0 k1 x wr) (hys : wr.ownsRow 0 2 1 k1 x.vFree.length ys) (hg1 : wr.grownBy w4 (some g)) (hrd : RdAt w4 g a nn cap) {o : Obj} {v : Int} (hv : InI v) {g3 capg : Nat}
    (hown : w5.ownsRow (w.heap.size + 1) 2 1 (.slice (some ⟨g3, 0, none⟩) (x.vFree.length + 1) capg) (x.vFree.length + 1) (ys ++ [.int .i64 v])) (hgrow : (w4.alloc o).grownBy w5 k1.ownBlock) (hat : k1.ownBlock = some g3 ∨ g3 = (w4.alloc o).heap.size) :
    ∃ y : ArenaD, AA w g a nn cap T k0 (.slice (some ⟨g3, 0, none⟩) (x.vFree.length + 1) capg) y (w5.setCell ⟨T, 1, none⟩ (.slice (some ⟨g3, 0, none⟩) (x.vFree.length + 1) capg)) := by
  obtain ⟨h1, h2, h3, h4, h5, h6, ⟨f0, f1, zs, q1, q2, q3, q4, q5, q6⟩, h8⟩ := h
  have e1 := row_ints_eq hys (q2.at intOwn_at (fun _ _ => Nat.zero_le _))
  have hin := ints_in (q2.at (lo := 0) intOwn_at (fun _ _ => Nat.zero_le _))
  have s1 := hg1.size
  have s2 : (w4.alloc o).heap.size = w4.heap.size + 1 := by simp
  have s3 := hgrow.size
  have hk1 : ∀ c, k1.ownBlock = some c → w.heap.size < c ∧ c ≠ T ∧ c < wr.heap.size := fun c e => ⟨(q6 c e).1.1, (q6 c e).1.2, row_lt q5 c e⟩
  have old : ∀ c, c < wr.heap.size → c ≠ g → k1.ownBlock ≠ some c → w5.heap[c]? = wr.heap[c]? := fun c l1 l2 l3 => ((hgrow.block c (by omega) (fun e => l3 e.symm)).trans (Below.heap_alloc _ _ _ (by omega))).trans (hg1.block c l1 (fun e => l2 (by injection e)))
  have hT3 : g3 ≠ T := by
    rcases hat with e | e
    · exact (hk1 g3 e).2.1
    · omega
  have hg3w : w.heap.size < g3 := by have := own_block2 hown g3 rfl; omega
  have hrow2 : (w5.setCell ⟨T, 1, none⟩ (.slice (some ⟨g3, 0, none⟩) (x.vFree.length + 1) capg)).ownsRow 0 2 1 (.slice (some ⟨g3, 0, none⟩) (x.vFree.length + 1) capg) (x.vFree ++ [v]).length ((x.vFree ++ [v]).map fun n => .int .i64 n) := by
    rw [List.map_append, List.map_cons, List.map_nil, ← e1, List.length_append]
    exact row_keep (row_lo hown (Nat.zero_le _)) (fun c e => set_other (by have e2 : some g3 = some c := e; injection e2 with e2; omega) _)
  obtain ⟨f2, hF, hFo⟩ := seqOwn_of_rowS hrow2 (fun u hu => by rcases List.mem_append.1 hu with q | q; · exact hin u q
                                                               · simp at q; rw [q]; exact hv)
  have hslot : ∀ c ∈ f0, (w5.setCell ⟨T, 1, none⟩ (.slice (some ⟨g3, 0, none⟩) (x.vFree.length + 1) capg)).heap[c]? = wr.heap[c]? := fun c q => (set_other (q3 c q).2 _).trans (old c (q1.lt SlotOwn_lt c q) (by have := (q3 c q).1; omega) (fun e => (q6 c e).2 q))
  refine ⟨⟨x.vSlots, x.vFree ++ [v]⟩, ?_, ?_, ?_, h4, by rw [set_size]; omega, h6, ⟨f0, f2, _, q1.stays SlotOwn_stays hslot, hF, q3, hFo, hrow2, fun c e => ?_⟩, ?_⟩
  · exact (Box.other (show Box w5 w.heap.size resA 27 from (old _ h1.lt (by omega) (fun e => by have := (hk1 _ e).1; omega)).trans h1) (by omega) _)
  · exact hrd.keep (fun c q => (set_other (by omega) _).trans ((hgrow.block c (by omega) (fun e => by have := (hk1 c e.symm).1; omega)).trans (Below.heap_alloc _ _ _ (by omega))))
  · have s4 := h3.size
    exact ⟨hgrow.os.trans (hg1.os.trans h3.os), hgrow.tape.trans (hg1.tape.trans h3.tape), hgrow.output.trans (hg1.output.trans h3.output), by rw [set_size]; omega, fun c hc hne => (set_other (by omega) _).trans ((old c (by omega) (fun e => hne (by rw [e])) (fun e => by have := (hk1 c e).1; omega)).trans (h3.block c hc hne))⟩
  · have e2 : some g3 = some c := e
    injection e2 with e2
    subst e2
    refine ⟨⟨hg3w, hT3⟩, fun q => ?_⟩
    rcases hat with e | e
    · exact (q6 g3 e).2 q
    · have := q1.lt SlotOwn_lt g3 q
      omega
  · exact Box.set (i := 1) (show Box w5 T [k0, k1] 27 from (old T h5 (by omega) (fun e => (hk1 T e).2.1 rfl)).trans h8) _
/-- it is handed back -/
theorem AA.done {w : World} {g : Nat} {a : Option Addr} {nn cap T : Nat} {k0 k1 : Value} {x : ArenaD} {wr : World} (h : AA w g a nn cap T k0 k1 x wr) :
    OwA (fun b => w.heap.size < b) (putCells wr w.heap.size 0 [k0, k1]) k0 k1 x ∧ RdAt (putCells wr w.heap.size 0 [k0, k1]) g a nn cap ∧ w.grownBy (putCells wr w.heap.size 0 [k0, k1]) (some g) := by
  obtain ⟨h1, h2, h3, h4, h5, h6, h7, h8⟩ := h
  refine ⟨(h7.mono (fun b _ q => q.1)).keep (fun b q _ => putCells_other _ _ _ _ _ (by omega)), h2.keep (fun b q => putCells_other _ _ _ _ _ (by omega)), ⟨h3.os, h3.tape, h3.output, by rw [putCells_size]; exact h3.size, fun b hb hne => (putCells_other _ _ _ _ _ (by omega)).trans (h3.block b hb hne)⟩⟩
end Go.Proofs.Ytcbomaflfjdmjaa
