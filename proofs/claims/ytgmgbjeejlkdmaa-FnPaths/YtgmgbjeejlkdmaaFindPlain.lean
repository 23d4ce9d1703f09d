/- What FindAll tells, and rows picked out of others: plain facts. -/
import Derived.Test.YtgmgbjeejlkdmaaPathsTop
import Derived.Test.YtgmgbjeejlkdmaaMatchPlain
namespace Go.Proofs.Ytgmgbjeejlkdmaa
open Go.RowKit
theorem pathsD_ok : ∀ (n : Nat) (d : TD) (p q : List Int), q ∈ pathsD n d p → ∃ r, q = p ++ r ∧ okP d r = true := by
  intro n
  induction n with
  | zero => intro d p q h; cases h
  | succ n ih =>
    intro d p q h
    rw [pathsD_succ] at h
    rcases List.mem_cons.1 h with e | e
    · exact ⟨[], by rw [e]; simp, rfl⟩
    · obtain ⟨i, hi0, hi⟩ := List.mem_flatMap.1 e
      have hi1 : i < (kidsOf d).length := List.mem_range.1 hi0
      obtain ⟨r, e1, e2⟩ := ih _ _ _ hi
      refine ⟨(i : Int) :: r, by rw [e1]; simp, ?_⟩
      have hin : inB d (i : Int) = true := inB_yes (by omega) (by omega)
      simp only [okP, hin, Bool.true_and]
      exact e2
/-- does what stands at a path fit? -/
def fitB (d : TD) (l : List StepD) (q : List Int) : Bool := mB (stL l) (tgP d q) (l.length - 1) q.length
/-- what FindAll tells -/
def findD (ok : Bool) (n : Nat) (d : TD) (l : List StepD) : List (List Int) := if (ok && selB l) = true then (pathsD n d []).filter (fitB d l) else []
theorem findD_no {ok : Bool} {n : Nat} {d : TD} {l : List StepD} (h : (ok && selB l) = false) : findD ok n d l = [] := by simp [findD, h]
theorem findD_yes {ok : Bool} {n : Nat} {d : TD} {l : List StepD} (h : ok = true) (h2 : selB l = true) : findD ok n d l = (pathsD n d []).filter (fitB d l) := by simp [findD, h, h2]
/-- one of a row: its numbers, its value, its blocks -/
structure OneP where
  xs : List Int
  k : Value
  bs : List Nat
def pickZ (f : List Int → Bool) (zs : List OneP) (j : Nat) : List OneP := (zs.take j).filter fun z => f z.xs
theorem pickZ_zero (f : List Int → Bool) (zs : List OneP) : pickZ f zs 0 = [] := by simp [pickZ]
theorem pickZ_yes {f : List Int → Bool} {zs : List OneP} {j : Nat} (h : j < zs.length) (hf : f zs[j].xs = true) : pickZ f zs (j + 1) = pickZ f zs j ++ [zs[j]] := by
  unfold pickZ
  rw [List.take_succ_eq_append_getElem h, List.filter_append]; simp [hf]
theorem pickZ_no {f : List Int → Bool} {zs : List OneP} {j : Nat} (h : j < zs.length) (hf : f zs[j].xs = false) : pickZ f zs (j + 1) = pickZ f zs j := by
  unfold pickZ
  rw [List.take_succ_eq_append_getElem h, List.filter_append]; simp [hf]
theorem pickZ_len (f : List Int → Bool) (zs : List OneP) (j : Nat) : (pickZ f zs j).length ≤ zs.length := by
  unfold pickZ
  have h1 := List.length_filter_le (fun z : OneP => f z.xs) (zs.take j)
  have h2 := List.length_take_le j zs
  have h3 := List.length_take_le' j zs
  omega
theorem pickZ_all (f : List Int → Bool) (zs : List OneP) : (pickZ f zs zs.length).map OneP.xs = (zs.map OneP.xs).filter f := by
  unfold pickZ
  rw [List.take_length, List.filter_map]; rfl
/-- a row of lists that owns its memory, taken apart -/
theorem seq_ones {w : World} {k : Value} {xs : List (List Int)} {fs : List Nat} (h : SeqOwn 1 IntsOwn w k xs fs) :
    ∃ zs : List OneP, zs.map OneP.xs = xs ∧ (zs.flatMap OneP.bs).Nodup ∧ (∀ z ∈ zs, ∀ b ∈ z.bs, b ∈ fs) ∧ (∀ z ∈ zs, SeqOwn 1 IntOwn w z.k z.xs z.bs) ∧
      ∃ a cap, k = .slice a xs.length cap ∧ (0 < xs.length → ∃ b off, a = some ⟨b, off, none⟩ ∧ b < w.heap.size ∧ ∀ i, (hi : i < zs.length) → w.cell? ⟨b, off + i, none⟩ = some zs[i].k) := by
  obtain ⟨a, cap, e, hm, h⟩ := h
  rcases h with ⟨h0, hf⟩ | ⟨b, off, ea, C, T, bss, h1, h2, h3, h4, h5, h6⟩
  · have hx : xs = [] := List.eq_nil_of_length_eq_zero h0
    subst hx
    exact ⟨[], rfl, by simp, by simp, by simp, a, cap, e, fun h => absurd h (by simp)⟩
  · obtain ⟨zs, hl, hz⟩ := list_of (n := xs.length) (p := fun i (z : OneP) => ∃ (hi : i < xs.length) (hi' : i < bss.length), z.xs = xs[i] ∧ z.bs = bss[i] ∧ C[off + i]? = some z.k ∧ SeqOwn 1 IntOwn w z.k z.xs z.bs) (fun i hi => by
      obtain ⟨cs, hc, hcc, k1, rfl, r⟩ := h6 i hi (by omega)
      have := hcc 0 (by omega)
      simp only [Nat.mul_one, Nat.add_zero, List.getElem?_cons_zero] at this
      exact ⟨⟨xs[i], k1, bss[i]'(by omega)⟩, hi, by omega, rfl, rfl, this, r⟩)
    have ex : zs.map OneP.xs = xs := List.ext_getElem (by simp [hl]) fun i h1 h2 => by
      rw [List.getElem_map]
      obtain ⟨_, _, e1, _⟩ := hz i (by simpa using h1)
      exact e1
    have eb : zs.map OneP.bs = bss := List.ext_getElem (by simp [hl, h3]) fun i h1 h2 => by
      rw [List.getElem_map]
      obtain ⟨_, _, _, e1, _⟩ := hz i (by simpa using h1)
      exact e1
    have hfl : zs.flatMap OneP.bs = bss.flatten := by rw [← eb, List.flatMap_def]
    rw [h4] at h5
    refine ⟨zs, ex, by rw [hfl]; exact (List.nodup_cons.1 h5).2, fun z hzm b hb => ?_, fun z hzm => ?_, a, cap, e, fun _ => ⟨b, off, ea, (Array.getElem?_eq_some_iff.1 h1).1, fun i hi => ?_⟩⟩
    · rw [h4]
      refine List.mem_cons_of_mem _ ?_
      rw [← hfl]
      exact List.mem_flatMap.2 ⟨z, hzm, hb⟩
    · obtain ⟨i, hi, rfl⟩ := List.getElem_of_mem hzm
      obtain ⟨_, _, _, _, _, r⟩ := hz i hi
      exact r
    · obtain ⟨_, _, _, _, hc, _⟩ := hz i hi
      rw [blk_cell h1]
      exact hc
theorem flat_sub {ls bs : List (List Nat)} (h : ls.Sublist bs) : ls.flatten.Sublist bs.flatten := by
  induction h with
  | slnil => exact List.Sublist.refl _
  | cons a _ ih => exact ih.trans (List.sublist_append_right _ _)
  | cons_cons a _ ih => exact List.Sublist.append_left ih a
/-- a row made of some of them owns its memory -/
theorem picked_own {w0 w : World} {base : Nat} {v : Value} {zs ys : List OneP} {T : Nat} {r : Option Nat} (hsub : ys.Sublist zs) (hnd : (zs.flatMap OneP.bs).Nodup) (ho : ∀ z ∈ zs, SeqOwn 1 IntOwn w0 z.k z.xs z.bs) (hgr : w0.grownBy w r) (hr : ∀ z ∈ zs, ∀ b ∈ z.bs, r ≠ some b) (hv : ∀ z ∈ zs, ∀ b ∈ z.bs, v.ownBlock ≠ some b)
    (hrow : w.ownsRow base T 1 v ys.length (ys.map OneP.k)) : ∃ fs, SeqOwn 1 IntsOwn w v (ys.map OneP.xs) fs ∧ ∀ b ∈ fs, base ≤ b ∨ ∃ z ∈ zs, b ∈ z.bs := by
  obtain ⟨_, hrw⟩ := hrow
  have hmem : ∀ y ∈ ys, y ∈ zs := fun y hy => hsub.subset hy
  rcases hrw with ⟨rfl, hn⟩ | ⟨g, cap, cur, rfl, hg, hh, h1, h2, h3, h4⟩
  · have : ys = [] := List.eq_nil_of_length_eq_zero hn
    subst this
    exact ⟨[], ⟨none, 0, rfl, ⟨Nat.zero_le _, Nat.zero_le _⟩, Or.inl ⟨rfl, rfl⟩⟩, by simp⟩
  · refine ⟨g :: (ys.map OneP.bs).flatten, ⟨_, _, by rw [List.length_map], by rw [List.length_map]; exact ⟨Nat.le_trans h1 h2, h1⟩, Or.inr ⟨g, 0, rfl, cur, T, ys.map OneP.bs, hh, by rw [List.length_map]; omega, by simp, rfl, ?_, fun i hi hi' => ?_⟩⟩, fun b hq => ?_⟩
    · rw [List.nodup_cons]
      have hs2 : (ys.map OneP.bs).flatten.Sublist (zs.flatMap OneP.bs) := by
        rw [List.flatMap_def]
        exact flat_sub (hsub.map OneP.bs)
      refine ⟨fun hq => ?_, hnd.sublist hs2⟩
      obtain ⟨l, hl, hgl⟩ := List.mem_flatten.1 hq
      obtain ⟨y, hy, rfl⟩ := List.mem_map.1 hl
      exact hv y (hmem y hy) g hgl rfl
    · have hi1 : i < ys.length := by simpa using hi
      refine ⟨[ys[i].k], rfl, fun m hm => ?_, ?_⟩
      · obtain rfl : m = 0 := by omega
        have e : (cur.toList.take (ys.length * 1))[i]? = some ys[i].k := by rw [h4]; simp [hi1]
        rw [List.getElem?_take_of_lt (by omega)] at e
        simpa using e
      · rw [List.getElem_map, List.getElem_map]
        have hm := hmem ys[i] (List.getElem_mem _)
        exact ⟨_, rfl, seqOwn_grown intOwn_stays intOwn_lt (ho _ hm) hgr (fun b q => hr _ hm b q)⟩
    · rcases List.mem_cons.1 hq with e | e
      · exact Or.inl (by omega)
      · obtain ⟨l, hl, hgl⟩ := List.mem_flatten.1 e
        obtain ⟨y, hy, rfl⟩ := List.mem_map.1 hl
        exact Or.inr ⟨y, hmem y hy, hgl⟩
theorem pickZ_sub (f : List Int → Bool) (zs : List OneP) (j : Nat) : (pickZ f zs j).Sublist zs := (List.filter_sublist).trans (List.take_sublist j zs)
end Go.Proofs.Ytgmgbjeejlkdmaa
