/- Rows that grow beside one another; arenas that a call makes. -/
import Derived.Test.YtcbomaflfjdmjaaArPool
namespace Go.Proofs.Ytcbomaflfjdmjaa
open Go.RowKit
theorem row_blk {w : World} {base e size n : Nat} {v : Value} {xs : List Value} (h : w.ownsRow base e size v n xs) {g : Nat} (hg : v.ownBlock = some g) : ∃ cur, w.heap[g]? = some (.cells cur e (0, 0)) := by
  rcases h.2 with ⟨rfl, _⟩ | ⟨g', cap, cur, rfl, _, hh, r⟩
  · cases hg
  · simp only [Value.ownBlock, Option.some.injEq] at hg
    subst hg
    exact ⟨cur, hh⟩
theorem row_keep {w w' : World} {base e size n : Nat} {v : Value} {xs : List Value} (h : w.ownsRow base e size v n xs) (hk : ∀ g, v.ownBlock = some g → w'.heap[g]? = w.heap[g]?) : w'.ownsRow base e size v n xs := by
  refine ⟨h.1, ?_⟩
  rcases h.2 with h2 | ⟨g, cap, cur, hv, hg, hh, r⟩
  · exact Or.inl h2
  · exact Or.inr ⟨g, cap, cur, hv, hg, (hk g (by rw [hv]; rfl)).trans hh, r⟩
/-- rows of records of no rows of their own: another row, of another type, grows -/
theorem GrowOwn.apart {α : Type} {T c : Nat} {R : World → List Value → α → List Nat → Prop} (hR : ∀ w w' cs x fs, R w cs x fs → R w' cs x fs) {base : Nat} {w w' : World} {v : Value} {xs : List α} {bss : List (List Nat)} {css : List (List Value)} (h : GrowOwn T c R base w v xs bss css)
    {base' T' c' n' : Nat} {v' : Value} {ys : List Value} (h' : w.ownsRow base' T' c' v' n' ys) (hT : T' ≠ T) (hf : bss.flatten = []) (hg : w.grownBy w' v'.ownBlock) : GrowOwn T c R base w' v xs bss css := by
  obtain ⟨h1, h2, h3, h4, h5, h6, h7⟩ := h
  refine ⟨h1, h2, h3, row_keep h4 (fun g q => hg.block g (row_lt h4 g q) (fun e => ?_)), fun i a b c => hR _ _ _ _ _ (h5 i a b c), h6, fun b q => ?_⟩
  · obtain ⟨c1, k1⟩ := row_blk h4 q
    obtain ⟨c2, k2⟩ := row_blk h' e.symm
    rw [k1] at k2
    injection k2 with k2
    injection k2 with _ k2 _
    exact hT k2.symm
  · rw [hf] at q; cases q
/-- what a call that makes an arena tells -/
def AnsA (w w' : World) (cs : List Value) (x : ArenaD) : Prop := ∃ fs : List Nat, ArenaOwn w' cs x fs ∧ fs.Nodup ∧ ∀ b ∈ fs, w.heap.size ≤ b
def nilA : ArenaD := ⟨[], []⟩
theorem seqNil {α : Type} {c : Nat} {R : World → List Value → α → List Nat → Prop} {w : World} : SeqOwn c R w (.slice none 0 0) [] [] := ⟨none, 0, rfl, ⟨Nat.zero_le _, Nat.zero_le _⟩, Or.inl ⟨rfl, rfl⟩⟩
theorem ansNil {w w' : World} : AnsA w w' [.slice none 0 0, .slice none 0 0] nilA := ⟨[], ⟨_, _, [], [], rfl, seqNil, seqNil, rfl⟩, List.nodup_nil, by simp⟩
theorem slotFlat (w w' : World) (cs : List Value) (x : SlotD) (fs : List Nat) (h : SlotOwn w cs x fs) : SlotOwn w' cs x fs := h
theorem intFlat (w w' : World) (cs : List Value) (x : Int) (fs : List Nat) (h : IntOwn w cs x fs) : IntOwn w' cs x fs := h
theorem infoS : ((Try.prog.info? 63).map fun i => (i.zero, i.size, i.bytes)) = some (some (.agg #[.int .i64 0, .bool false, .string ⟨#[]⟩]), 3, 32) := by kernel_rfl
theorem infoS2 : ∃ iT, Try.prog.info? 63 = some iT ∧ iT.zero = some (.agg #[.int .i64 0, .bool false, .string ⟨#[]⟩]) ∧ iT.size = 3 ∧ iT.bytes = 32 := by
  obtain ⟨iT, h, e⟩ := Option.map_eq_some_iff.1 infoS
  injection e with e1 e2
  injection e2 with e2 e3
  exact ⟨iT, h, e1, e2, e3⟩
theorem infoI2 : ∃ iT, Try.prog.info? 2 = some iT ∧ iT.zero = some (.int .i64 0) ∧ iT.size = 1 ∧ iT.bytes = 8 := by
  obtain ⟨iT, h, e⟩ := Option.map_eq_some_iff.1 (show ((Try.prog.info? 2).map fun i => (i.zero, i.size, i.bytes)) = some (some (.int .i64 0), 1, 8) by kernel_rfl)
  injection e with e1 e2
  injection e2 with e2 e3
  exact ⟨iT, h, e1, e2, e3⟩
/-- both rows, one behind the other -/
theorem ansRows {w w' : World} {base : Nat} {k fk : Value} {xs : List SlotD} {fr : List Int} {fs ffs : List Nat} (h1 : SeqOwn 3 SlotOwn w' k xs fs) (h2 : SeqOwn 1 IntOwn w' fk fr ffs) (l1 : ∀ b ∈ fs, base ≤ b) (l2 : ∀ b ∈ ffs, base ≤ b) (hb : w.heap.size ≤ base) (hap : ∀ b ∈ fs, b ∉ ffs) : AnsA w w' [k, fk] ⟨xs, fr⟩ := by
  refine ⟨fs ++ ffs, ⟨k, fk, fs, ffs, rfl, h1, h2, rfl⟩, List.nodup_append.2 ⟨h1.nodup, h2.nodup, fun a ha b hb e => hap a ha (e ▸ hb)⟩, fun b q => ?_⟩
  rcases List.mem_append.1 q with q | q
  · have := l1 b q; omega
  · have := l2 b q; omega
/-- rows of two types have no block in common -/
theorem rows_apart {w : World} {base base' T T' c c' n n' : Nat} {v v' : Value} {xs ys : List Value} (h : w.ownsRow base T c v n xs) (h' : w.ownsRow base' T' c' v' n' ys) (hT : T' ≠ T) {g : Nat} (e : v.ownBlock = some g) (e' : v'.ownBlock = some g) : False := by
  obtain ⟨c1, k1⟩ := row_blk h e
  obtain ⟨c2, k2⟩ := row_blk h' e'
  rw [k1] at k2
  injection k2 with k2
  injection k2 with _ k2 _
  exact hT k2.symm
/-- the blocks of a row of records of no rows of their own -/
theorem GrowOwn.flat {α : Type} {T c : Nat} {R : World → List Value → α → List Nat → Prop} {base : Nat} {w : World} {v : Value} {xs : List α} {bss : List (List Nat)} {css : List (List Value)} (h : GrowOwn T c R base w v xs bss css) (hf : bss.flatten = []) : ∃ fs, SeqOwn c R w v xs fs ∧ (∀ b ∈ fs, base ≤ b) ∧ ∀ b ∈ fs, v.ownBlock = some b := by
  have h0 := h
  obtain ⟨h1, h2, h3, h4, h5, h6, h7⟩ := h
  obtain ⟨hl, ho⟩ := h4
  rcases ho with ⟨rfl, hn⟩ | ⟨g, cap, cur, rfl, hg, hh, q1, q2, q3, q4⟩
  · have : xs = [] := List.eq_nil_of_length_eq_zero hn
    subst this
    exact ⟨[], seqNil, by simp, by simp⟩
  · refine ⟨[g], ?_, by simpa using hg, by simp [Value.ownBlock]⟩
    refine ⟨_, _, rfl, ⟨Nat.le_trans q1 q2, q1⟩, Or.inr ⟨g, 0, rfl, cur, T, bss, hh, ?_, h2, by rw [hf], by simp, fun i hi hi' => ⟨css[i], h3 _ (List.getElem_mem _), fun m hm => ?_, h5 i hi (by omega) hi'⟩⟩⟩
    · rw [q3, Nat.zero_add]; exact Nat.mul_le_mul_right c q1
    · have e : (cur.toList.take (xs.length * c))[i * c + m]? = css[i][m]? := by rw [q4]; exact flat_get h3 (by omega) hm
      have hlt : i * c + m < xs.length * c := by have := idx_le (c := c) hi; omega
      rw [List.getElem?_take_of_lt hlt] at e
      rw [Nat.zero_add]
      simpa using e
end Go.Proofs.Ytcbomaflfjdmjaa
