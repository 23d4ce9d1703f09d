/- A node in a tree that owns its memory: where it lies, and how the whole stands when it alone has turned. -/
import Derived.Test.YtndffcogddefiaaEdPlain
import Derived.Test.YtndffcogddefiaaTreeO
namespace Go.Proofs.Ytndffcogddefiaa
open Go.RowKit
theorem Out.wider {fs gs : List Nat} {w w' : World} (h : Out fs w w') (hs : ∀ x ∈ fs, x ∈ gs) : Out gs w w' :=
  ⟨h.1, h.2.1, h.2.2.1, h.2.2.2.1, fun k h1 h2 => h.2.2.2.2 k h1 (fun q => h2 (hs k q))⟩
/-- one record of a row, and how the row stands when it alone has turned, its blocks too -/
theorem RowOwn.atX {α : Type} {c : Nat} {R : World → List Value → α → List Nat → Prop} (hL : OwnLt R) {w : World} {b off : Nat} {ys : List α} {fs : List Nat} (h : RowOwn c R w b off ys fs) {j : Nat} (hj : j < ys.length) :
    ∃ C T cs fj, RowIs w b (off + j * c) C T cs ∧ cs.length = c ∧ (b ∈ fs ∧ b ∉ fj ∧ (∀ x ∈ fj, x ∈ fs) ∧ fj.Nodup) ∧ R w cs ys[j] fj ∧
      ∀ (Q : World → List Value → α → List Nat → Prop), OwnStays Q → (∀ w cs x fs, R w cs x fs → Q w cs x fs) → ∀ (w' : World) (cs' : List Value) (y : α) (gj : List Nat), cs'.length = c → RowIs w' b (off + j * c) C T cs' → Out (b :: fj) w w' → Q w' cs' y gj → gj.Nodup → b ∉ gj → (∀ x ∈ gj, x ∈ fj ∨ w.heap.size ≤ x) → ∃ gs, RowOwn c Q w' b off (ys.set j y) gs ∧ (∀ x ∈ gs, x ∈ fs ∨ w.heap.size ≤ x) := by
  have hlt := h.lt hL
  obtain ⟨C, T, bss, h1, h2, h3, rfl, h5, h6⟩ := h
  have hj' : j < bss.length := by omega
  have hfn : bss.flatten.Nodup := (List.nodup_cons.1 h5).2
  have hbn : b ∉ bss.flatten := (List.nodup_cons.1 h5).1
  have hblt : ∀ x ∈ bss.flatten, x < w.heap.size := fun x hx => hlt x (List.mem_cons_of_mem _ hx)
  have hb0 : b < w.heap.size := hlt b List.mem_cons_self
  obtain ⟨cs, hc, hl, r⟩ := h6 j hj hj'
  have hjc := idx_le (c := c) hj
  refine ⟨C, T, cs, bss[j], ⟨C, h1, rfl, by omega, fun _ _ => rfl, fun m hm => hl m (by omega)⟩, hc, ⟨List.mem_cons_self, fun hb => hbn (flat_mem hj' hb), fun x hx => List.mem_cons_of_mem _ (flat_mem hj' hx), flat_nodup hfn hj'⟩, r, ?_⟩
  intro Q hQ hRQ w' cs' y gj hc' hrow hout hr hgn hbg hgs
  obtain ⟨C', g1, g2, g3, g4, g5⟩ := hrow
  have hmem : ∀ x ∈ (bss.set j gj).flatten, x ∈ bss.flatten ∨ x ∈ gj := fun x hx => by
    obtain ⟨l, hl1, hxl⟩ := List.mem_flatten.1 hx
    rcases List.mem_or_eq_of_mem_set hl1 with q | q
    · exact Or.inl (List.mem_flatten.2 ⟨l, q, hxl⟩)
    · rw [q] at hxl; exact Or.inr hxl
  have hnd : (bss.set j gj).flatten.Nodup := by
    refine List.pairwise_flatten.2 ⟨fun l hl1 => ?_, ?_⟩
    · rcases List.mem_or_eq_of_mem_set hl1 with q | q
      · obtain ⟨i, hi, rfl⟩ := List.mem_iff_getElem.1 q; exact flat_nodup hfn hi
      · rw [q]; exact hgn
    · rw [List.pairwise_iff_getElem]
      intro i i2 hi hi2 hlt2 x hx x2 hx2 e
      subst e
      simp only [List.length_set] at hi hi2
      rw [List.getElem_set] at hx hx2
      have key : ∀ (k : Nat) (hk : k < bss.length), k ≠ j → x ∈ bss[k] → x ∉ gj := fun k hk hne hxk hxg => by
        rcases hgs x hxg with q | q
        · exact flat_apart hfn hk hj' hne hxk q
        · have := hblt x (flat_mem hk hxk); omega
      by_cases e1 : j = i
      · by_cases e2 : j = i2
        · omega
        · rw [if_pos e1] at hx; rw [if_neg e2] at hx2; exact key i2 hi2 (fun q => e2 q.symm) hx2 hx
      · by_cases e2 : j = i2
        · rw [if_neg e1] at hx; rw [if_pos e2] at hx2; exact key i hi (fun q => e1 q.symm) hx hx2
        · rw [if_neg e1] at hx; rw [if_neg e2] at hx2; exact flat_apart hfn hi hi2 (by omega) hx hx2
  have hbX : b ∉ (bss.set j gj).flatten := fun q => by rcases hmem b q with r | r; exact hbn r; exact hbg r
  refine ⟨b :: (bss.set j gj).flatten, ⟨C', T, bss.set j gj, g1, by simp; omega, by simpa using h3, rfl, List.nodup_cons.2 ⟨hbX, hnd⟩, fun i hi hi' => ?_⟩, fun x hx => ?_⟩
  · simp only [List.length_set] at hi hi'
    by_cases e : i = j
    · subst e
      exact ⟨cs', hc', fun m hm => g5 m (by omega), by simpa using hr⟩
    · obtain ⟨ci, hci, hli, ri⟩ := h6 i hi (by omega)
      refine ⟨ci, hci, fun m hm => ?_, ?_⟩
      · have := idx_apart e hm
        rw [g4 _ (by omega)]; exact hli m hm
      · rw [List.getElem_set_ne (fun q => e q.symm)]
        have e9 : (bss.set j gj)[i]'(by simpa using hi') = bss[i] := List.getElem_set_ne (fun q => e q.symm) _
        rw [e9]
        refine hQ _ _ _ _ _ (fun x hx => hout.keep (hblt x (flat_mem hi' hx)) ?_) (hRQ _ _ _ _ ri)
        intro hm
        rcases List.mem_cons.1 hm with rfl | hm
        · exact hbn (flat_mem hi' hx)
        · exact flat_apart hfn hi' hj' e hx hm
  · rcases List.mem_cons.1 hx with rfl | hx
    · exact Or.inl List.mem_cons_self
    · rcases hmem x hx with q | q
      · exact Or.inl (List.mem_cons_of_mem _ q)
      · rcases hgs x q with r | r
        · exact Or.inl (List.mem_cons_of_mem _ (flat_mem hj' r))
        · exact Or.inr r
/-- where a node lies: a place, and a path from there -/
def LocP (w : World) : Nat → Nat → List Int → Nat → Nat → Prop
  | b, o, [], b', o' => b' = b ∧ o' = o
  | b, o, p :: ps, b', o' => ∃ b1 off n cap, w.cell? ⟨b, o + 1, none⟩ = some (.slice (some ⟨b1, off, none⟩) n cap) ∧ LocP w b1 (off + p.toNat * 2) ps b' o'
theorem LocP.one {w : World} : ∀ (ps : List Int) {b o b1 o1 b2 o2 : Nat}, LocP w b o ps b1 o1 → LocP w b o ps b2 o2 → b1 = b2 ∧ o1 = o2 := by
  intro ps
  induction ps with
  | nil => intro b o b1 o1 b2 o2 h1 h2; exact ⟨h1.1.trans h2.1.symm, h1.2.trans h2.2.symm⟩
  | cons p ps ih =>
    intro b o b1 o1 b2 o2 h1 h2
    obtain ⟨x, y, n, c, e, h1⟩ := h1
    obtain ⟨x2, y2, n2, c2, e2, h2⟩ := h2
    rw [e] at e2
    injection e2 with e2
    injection e2 with e2 _ _
    injection e2 with e2
    injection e2 with e3 e4
    subst e3 e4
    exact ih h1 h2
theorem LocP.snoc {w : World} {p : Int} : ∀ (ps : List Int) {b o b1 o1 b2 off n cap : Nat}, LocP w b o ps b1 o1 → w.cell? ⟨b1, o1 + 1, none⟩ = some (.slice (some ⟨b2, off, none⟩) n cap) → LocP w b o (ps ++ [p]) b2 (off + p.toNat * 2) := by
  intro ps
  induction ps with
  | nil => intro b o b1 o1 b2 off n cap h e; obtain ⟨rfl, rfl⟩ := h; exact ⟨b2, off, n, cap, e, rfl, rfl⟩
  | cons q ps ih =>
    intro b o b1 o1 b2 off n cap h e
    obtain ⟨x, y, n2, c2, e2, h⟩ := h
    exact ⟨x, y, n2, c2, e2, ih h e⟩
theorem kid_nth {d : TD} {p : Int} (h : inB d p = true) : ∃ hj : p.toNat < (kidsOf d).length, kidP d p = (kidsOf d)[p.toNat] := by
  simp only [inB, Bool.and_eq_true, decide_eq_true_eq] at h
  have hj : p.toNat < (kidsOf d).length := by omega
  exact ⟨hj, by simp [kidP, nth, List.getD, List.getElem?_eq_getElem hj]⟩
/-- INTO A TREE, AND OUT AGAIN -/
theorem zoom : ∀ (path : List Int) (n : Nat) (w : World) (b o : Nat) (C : Array Value) (T : TypeId) (cs : List Value) (d : TD) (fs : List Nat), RowIs w b o C T cs → cs.length = 2 → TreeO n w cs d fs → fs.Nodup → b ∉ fs → okP d path = true →
    ∃ (b' o' n' : Nat) (C' : Array Value) (T' : TypeId) (cs' : List Value) (fs' : List Nat), RowIs w b' o' C' T' cs' ∧ cs'.length = 2 ∧ TreeO n' w cs' (endP d path) fs' ∧ fs'.Nodup ∧ b' ∉ fs' ∧ (b' = b ∨ b' ∈ fs) ∧ (∀ x ∈ fs', x ∈ fs) ∧ n' ≤ n ∧ LocP w b o path b' o' ∧
      ∀ (w2 : World) (cs2 : List Value) (y : TD) (fs2 : List Nat) (m : Nat), cs2.length = 2 → RowIs w2 b' o' C' T' cs2 → Out (b' :: fs') w w2 → TreeO m w2 cs2 y fs2 → fs2.Nodup → b' ∉ fs2 → (∀ x ∈ fs2, x ∈ fs' ∨ w.heap.size ≤ x) →
        ∃ cs3 fs3, cs3.length = 2 ∧ RowIs w2 b o C T cs3 ∧ TreeO (n + m) w2 cs3 (setP d path y) fs3 ∧ fs3.Nodup ∧ b ∉ fs3 ∧ ∀ x ∈ fs3, x ∈ fs ∨ w.heap.size ≤ x := by
  intro path
  induction path with
  | nil =>
    intro n w b o C T cs d fs hrow hl ht hnd hb _
    exact ⟨b, o, n, C, T, cs, fs, hrow, hl, ht, hnd, hb, Or.inl rfl, fun _ h => h, Nat.le_refl _, ⟨rfl, rfl⟩, fun w2 cs2 y fs2 m h1 h2 h3 h4 h5 h6 h7 => ⟨cs2, fs2, h1, h2, TreeO_mono (by omega) h4, h5, h6, h7⟩⟩
  | cons p ps ih =>
    intro n w b o C T cs d fs hrow hl ht hnd hb hok
    simp only [okP, Bool.and_eq_true] at hok
    obtain ⟨hj, hkid⟩ := kid_nth hok.1
    cases n with
    | zero => exact ht.elim
    | succ n =>
      obtain ⟨k1, f1, rfl, hseq, hsz, rfl⟩ := ht
      obtain ⟨a, cap, rfl, hm, hx⟩ := hseq
      rcases hx with ⟨h0, _⟩ | ⟨b1, off, rfl, hown⟩
      · omega
      have hlts := hown.lt (TreeO_lt n)
      obtain ⟨C1, T1, cj, fj, hr1, hl1, ⟨hb1, hb1n, hfj, hfjn⟩, htj, hclose⟩ := hown.atX (TreeO_lt n) hj
      rw [hkid] at hok
      obtain ⟨b', o', n', C', T', cs', fs', z1, z2, z3, z4, z5, z6, z7, z8, z9, z10⟩ := ih n w b1 (off + p.toNat * 2) C1 T1 cj _ fj hr1 hl1 htj hfjn hb1n hok.2
      have hend : endP d (p :: ps) = endP (kidsOf d)[p.toNat] ps := by show endP (kidP d p) ps = _; rw [hkid]
      refine ⟨b', o', n', C', T', cs', fs', z1, z2, by rw [hend]; exact z3, z4, z5, ?_, fun x hx => hfj x (z7 x hx), by omega, ⟨b1, off, _, cap, hrow.cell 1 rfl, z9⟩, ?_⟩
      · rcases z6 with q | q
        · rw [q]; exact Or.inr hb1
        · exact Or.inr (hfj _ q)
      · intro w2 cs2 y fs2 m h1 h2 h3 h4 h5 h6 h7
        obtain ⟨cs3, fs3, y1, y2, y3, y4, y5, y6⟩ := z10 w2 cs2 y fs2 m h1 h2 h3 h4 h5 h6 h7
        have hout : Out (b1 :: fj) w w2 := h3.wider (fun x hx => by
          rcases List.mem_cons.1 hx with rfl | hx
          · rcases z6 with q | q
            · rw [q]; exact List.mem_cons_self
            · exact List.mem_cons_of_mem _ q
          · exact List.mem_cons_of_mem _ (z7 x hx))
        obtain ⟨gs, w1, w3⟩ := hclose (TreeO (n + m)) (TreeO_stays (n + m)) (fun _ _ _ _ h => TreeO_mono (by omega) h) w2 cs3 _ fs3 y1 y2 hout y3 y4 y5 y6
        have hbo : b ∉ b1 :: fj := fun q => by
          rcases List.mem_cons.1 q with q | q
          · rw [q] at hb; exact hb hb1
          · exact hb (hfj b q)
        have hgn : gs.Nodup := by obtain ⟨_, _, _, _, _, _, _, q, _⟩ := w1; exact q
        refine ⟨[.string (strT d), .slice (some ⟨b1, off, none⟩) (kidsOf d).length cap], gs, rfl, hrow.out hout hbo, ?_, hgn, fun q => ?_, w3⟩
        · rw [show n + 1 + m = n + m + 1 by omega]
          refine ⟨.slice (some ⟨b1, off, none⟩) (kidsOf d).length cap, gs, rfl, ⟨some ⟨b1, off, none⟩, cap, ?_, ?_, Or.inr ⟨b1, off, rfl, ?_⟩⟩, hsz, rfl⟩
          · show _ = Value.slice _ ((kidsOf d).set p.toNat _).length cap
            rw [List.length_set]
          · show ((kidsOf d).set p.toNat _).length ≤ maxLen ∧ ((kidsOf d).set p.toNat _).length ≤ cap
            rw [List.length_set]; exact hm
          · have e : kidsOf (setP d (p :: ps) y) = (kidsOf d).set p.toNat (setP (kidsOf d)[p.toNat] ps y) := by
              show (kidsOf d).set p.toNat (setP (kidP d p) ps y) = _
              rw [hkid]
            rw [e]; exact w1
        · rcases w3 b q with r | r
          · exact hb r
          · have := hrow.lt; omega
end Go.Proofs.Ytndffcogddefiaa
