/- A record taken out of a row of records that own their memory: plain facts. -/
import Derived.Test.YtndffcogddefiaaEdSplit
import Derived.Test.YtndffcogddefiaaDelPlain
namespace Go.Proofs.Ytndffcogddefiaa
open Go.RowKit
/-- some of the records of a row, moved together -/
theorem Items.sub {α : Type} {c : Nat} {R : World → List Value → α → List Nat → Prop} (hR : OwnStays R) (hL : OwnLt R) {w w2 : World} {g off cap : Nat} {T : TypeId} {C : Array Value} {es : List (It α)} {xs : List α} {fs : List Nat} (h : Items c R w g off T C es xs fs) (hm : xs.length ≤ maxLen) (hcap : xs.length ≤ cap)
    {es' : List (It α)} (hsub : es'.Sublist es) (ho : Out [g] w w2) {C2 : Array Value} (hC2 : w2.heap[g]? = some (.cells C2 T (0, 0))) (hs : C2.size = C.size) (hk : ∀ k, (h : k < es'.length) → ∀ m, m < c → C2[off + k * c + m]? = es'[k].1[m]?) :
    SeqOwn c R w2 (.slice (some ⟨g, off, none⟩) es'.length cap) (es'.map (·.2.1)) (g :: (es'.map (·.2.2)).flatten) ∧ ∀ b ∈ g :: (es'.map (·.2.2)).flatten, b ∈ fs := by
  obtain ⟨rfl, h1, h2, rfl, h4, h5⟩ := h
  have hle : es'.length ≤ es.length := hsub.length_le
  have hfl : (es'.map (·.2.2)).flatten.Sublist (es.map (·.2.2)).flatten := sub_flat (hsub.map _)
  refine ⟨⟨some ⟨g, off, none⟩, cap, by simp, ?_, Or.inr ⟨g, off, rfl, C2, T, es'.map (·.2.2), hC2, ?_, by simp, rfl, ?_, fun i hi hi' => ?_⟩⟩, fun b hb => ?_⟩
  · simp at hm hcap ⊢; omega
  · simp at h2 ⊢
    have := Nat.mul_le_mul_right c hle
    omega
  · rw [List.nodup_cons] at h4 ⊢
    exact ⟨fun q => h4.1 (hfl.subset q), hfl.nodup h4.2⟩
  · simp at hi
    have hmem : es'[i] ∈ es := hsub.subset (List.getElem_mem hi)
    obtain ⟨j, hj, ej⟩ := List.getElem_of_mem hmem
    obtain ⟨q1, q2, q3⟩ := h5 j hj
    rw [ej] at q1 q3
    refine ⟨es'[i].1, q1, fun m hm' => hk i hi m hm', ?_⟩
    simp only [List.getElem_map]
    refine hR _ _ _ _ _ (fun b hb => ?_) q3
    have hbf : b ∈ (es.map (·.2.2)).flatten := List.mem_flatten.2 ⟨_, List.mem_map.2 ⟨_, hmem, rfl⟩, hb⟩
    have hne : b ≠ g := fun e => (List.nodup_cons.1 h4).1 (e ▸ hbf)
    exact ho.keep (hL _ _ _ _ q3 b hb) (by simpa using hne)
  · rcases List.mem_cons.1 hb with e | e
    · rw [e]; exact List.mem_cons_self
    · exact List.mem_cons_of_mem _ (hfl.subset e)
theorem erase_map {α β : Type} (f : α → β) (l : List α) (i : Nat) : (l.eraseIdx i).map f = (l.map f).eraseIdx i := by
  induction l generalizing i with
  | nil => rfl
  | cons a l ih => cases i with
    | zero => rfl
    | succ i => simp [List.eraseIdx_cons_succ, ih]
/-- the record that is taken out, and those that are left -/
theorem Items.gone {α : Type} {c : Nat} {R : World → List Value → α → List Nat → Prop} (hR : OwnStays R) (hL : OwnLt R) {w w2 : World} {g off : Nat} {T : TypeId} {C : Array Value} {es : List (It α)} {xs : List α} {fs : List Nat} (h : Items c R w g off T C es xs fs) (ho : Out [g] w w2) {i : Nat} (hi : i < es.length) :
    es[i].1.length = c ∧ R w2 es[i].1 es[i].2.1 es[i].2.2 ∧ es[i].2.2.Nodup ∧ (∀ b ∈ es[i].2.2, b ∈ fs) ∧ ∀ b ∈ es[i].2.2, b ∉ g :: ((es.eraseIdx i).map (·.2.2)).flatten := by
  obtain ⟨rfl, h1, h2, rfl, h4, h5⟩ := h
  obtain ⟨q1, q2, q3⟩ := h5 i hi
  have hin : ∀ b ∈ es[i].2.2, b ∈ (es.map (·.2.2)).flatten := fun b hb => List.mem_flatten.2 ⟨_, List.mem_map.2 ⟨_, List.getElem_mem hi, rfl⟩, hb⟩
  rw [List.nodup_cons] at h4
  obtain ⟨h4, h6⟩ := h4
  have hne : ∀ b ∈ es[i].2.2, b ≠ g := fun b hb e => h4 (e ▸ hin b hb)
  have hsp : es = es.take i ++ es[i] :: es.drop (i + 1) := by rw [List.getElem_cons_drop, List.take_append_drop]
  have her : es.eraseIdx i = es.take i ++ es.drop (i + 1) := List.eraseIdx_eq_take_drop_succ _ _
  have hfl : (es.map (·.2.2)).flatten = ((es.take i).map (·.2.2)).flatten ++ (es[i].2.2 ++ ((es.drop (i + 1)).map (·.2.2)).flatten) := by
    have q := congrArg (fun l : List (It α) => (l.map (·.2.2)).flatten) hsp
    simp only [List.map_append, List.map_cons, List.flatten_append, List.flatten_cons] at q
    exact q
  rw [hfl, List.nodup_append] at h6
  obtain ⟨n1, n2, n3⟩ := h6
  rw [List.nodup_append] at n2
  obtain ⟨n4, n5, n6⟩ := n2
  refine ⟨q1, hR _ _ _ _ _ (fun b hb => ho.keep (hL _ _ _ _ q3 b hb) (by simpa using hne b hb)) q3, n4, fun b hb => List.mem_cons_of_mem _ (hin b hb), fun b hb hq => ?_⟩
  rcases List.mem_cons.1 hq with e | e
  · exact hne b hb e
  · rw [her, List.map_append, List.flatten_append] at e
    rcases List.mem_append.1 e with e | e
    · exact n3 b e b (List.mem_append.2 (Or.inl hb)) rfl
    · exact n6 b hb b e rfl
/-- the row after the records behind the one at i have been moved up by one, and the last one has been overwritten -/
theorem Items.cut {α : Type} {c : Nat} {R : World → List Value → α → List Nat → Prop} {w : World} {g off : Nat} {T : TypeId} {C : Array Value} {es : List (It α)} {xs : List α} {fs : List Nat} (h : Items c R w g off T C es xs fs) {i : Nat} (hi : i < es.length) {vs : List Value} (hv : vs.length = c) :
    ∃ C2, (putCells (putCells w g (off + i * c) ((es.drop (i + 1)).map (·.1)).flatten) g (off + (es.length - 1) * c) vs).heap[g]? = some (.cells C2 T (0, 0)) ∧ C2.size = C.size ∧ ∀ k, (h : k < (es.eraseIdx i).length) → ∀ m, m < c → C2[off + k * c + m]? = (es.eraseIdx i)[k].1[m]? := by
  obtain ⟨rfl, h1, h2, rfl, h4, h5⟩ := h
  simp only [List.length_map] at h2
  have hcs : ∀ cs ∈ (es.drop (i + 1)).map (·.1), cs.length = c := fun cs hcs => by
    obtain ⟨e, he, rfl⟩ := List.mem_map.1 hcs
    obtain ⟨j, hj, rfl⟩ := List.getElem_of_mem (List.mem_of_mem_drop he)
    exact (h5 j hj).1
  have hnl := flat_len hcs
  simp only [List.length_map, List.length_drop] at hnl
  obtain ⟨r, hr⟩ : ∃ r, es.length = i + 1 + r := ⟨es.length - (i + 1), by omega⟩
  have e1 : es.length * c = i * c + c + r * c := by rw [hr, Nat.add_mul, Nat.add_mul, Nat.one_mul]
  have e2 : (es.length - 1) * c = i * c + r * c := by rw [hr, show i + 1 + r - 1 = i + r by omega, Nat.add_mul]
  rw [hr, show i + 1 + r - (i + 1) = r by omega] at hnl
  obtain ⟨C1, a1, a2, a3, a4⟩ := putCells_block ((es.drop (i + 1)).map (·.1)).flatten w g (off + i * c) C T h1 (by omega)
  obtain ⟨C2, b1, b2, b3, b4⟩ := putCells_block vs _ g (off + (es.length - 1) * c) C1 T a1 (by omega)
  refine ⟨C2, b1, by omega, fun k hk m hm => ?_⟩
  rw [List.length_eraseIdx, if_pos hi] at hk
  have hkc := Nat.mul_le_mul_right c (show k + 1 ≤ es.length - 1 by omega)
  have e3 : (k + 1) * c = k * c + c := Nat.succ_mul _ _
  rw [b3 _ (by omega)]
  by_cases hki : k < i
  · have hk2 := Nat.mul_le_mul_right c (show k + 1 ≤ i by omega)
    rw [a3 _ (by omega), (h5 k (by omega)).2.1 m hm, List.getElem_eraseIdx_of_lt _ hki]
  · obtain ⟨u, rfl⟩ : ∃ u, k = i + u := ⟨k - i, by omega⟩
    have e4 : (i + u) * c = i * c + u * c := Nat.add_mul _ _ _
    have hu := Nat.mul_le_mul_right c (show u + 1 ≤ r by omega)
    have e5 : (u + 1) * c = u * c + c := Nat.succ_mul _ _
    have q := a4 (u * c + m) (by omega)
    rw [show off + (i + u) * c + m = off + i * c + (u * c + m) by omega, q, flat_get hcs (by simp; omega) hm, List.getElem_eraseIdx_of_ge _ (by omega)]
    simp only [List.getElem_map, List.getElem_drop]
    simp only [show i + 1 + u = i + u + 1 by omega]
end Go.Proofs.Ytndffcogddefiaa
