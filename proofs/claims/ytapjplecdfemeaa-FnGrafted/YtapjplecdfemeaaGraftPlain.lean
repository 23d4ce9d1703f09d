/- A tree with one more kid: its size and its text. Plain facts. -/
import Derived.Test.YtapjplecdfemeaaTextWalks
import Derived.Test.YtapjplecdfemeaaTreeOwn
namespace Go.Proofs.Ytapjplecdfemeaa
open Go.RowKit
theorem szF_ge {H : Type} {f : DataW H → Int → Option Int} (hf : ∀ d room m, f d room = some m → 1 ≤ m) : ∀ (ds : List (DataW H)) (room size m : Int), szF f ds room size = some m → size ≤ m := by
  intro ds
  induction ds with
  | nil => intro room size m h; simp only [szF, Option.some.injEq] at h; omega
  | cons d ds ih =>
    intro room size m h
    unfold szF at h
    cases hq : f d (room - size) with
    | none => rw [hq] at h; simp at h
    | some k =>
      rw [hq] at h
      have := ih _ _ _ h
      have := hf _ _ _ hq
      omega
/-- with other room: the same size if there is room for it, else none -/
theorem szF_room {H : Type} {f : DataW H → Int → Option Int} (hf : ∀ d room m, f d room = some m → 1 ≤ m) (hr : ∀ d room m, f d room = some m → ∀ room', f d room' = if m ≤ room' then some m else none) :
    ∀ (ds : List (DataW H)) (room size m : Int), szF f ds room size = some m → ∀ room', size ≤ room' → szF f ds room' size = if m ≤ room' then some m else none := by
  intro ds
  induction ds with
  | nil => intro room size m h room' hs; simp only [szF, Option.some.injEq] at h ⊢; rw [if_pos (by omega), h]
  | cons d ds ih =>
    intro room size m h room' hs
    unfold szF at h ⊢
    cases hq : f d (room - size) with
    | none => rw [hq] at h; simp at h
    | some k =>
      rw [hq] at h
      have hk := szF_ge hf _ _ _ _ h
      rw [hr _ _ _ hq (room' - size)]
      by_cases hle : k ≤ room' - size
      · rw [if_pos hle]
        exact ih _ _ _ h room' (by omega)
      · rw [if_neg hle, if_neg (by omega)]
theorem szD_room {H : Type} : ∀ (n : Nat) (d : DataW H) (room m : Int), szD n d room = some m → ∀ room', szD n d room' = if m ≤ room' then some m else none := by
  intro n
  induction n with
  | zero => intro d room m h; simp [szD] at h
  | succ n ih =>
    intro d room m h room'
    have hm := szD_range _ _ _ _ h
    unfold szD at h ⊢
    by_cases hc : room < 1 ∨ nameB (tagOf d) = false
    · rw [if_pos hc] at h; simp at h
    · rw [if_neg hc] at h
      have hg := szF_ge (fun d r m q => (szD_range n d r m q).1) _ _ _ _ h
      by_cases hc' : room' < 1
      · rw [if_pos (Or.inl hc'), if_neg (by omega)]
      · rw [if_neg (by intro q; rcases q with q | q; exact hc' q; exact hc (Or.inr q))]
        exact szF_room (fun d r m q => (szD_range n d r m q).1) ih _ _ _ _ h room' (by omega)
theorem szF_snoc {H : Type} {f : DataW H → Int → Option Int} (b : DataW H) : ∀ (ds : List (DataW H)) (room size m : Int), szF f ds room size = some m → szF f (ds ++ [b]) room size = (f b (room - m)).map (m + ·) := by
  intro ds
  induction ds with
  | nil =>
    intro room size m h
    simp only [szF, Option.some.injEq] at h
    subst h
    simp only [List.nil_append, szF]
    cases f b (room - size) <;> rfl
  | cons d ds ih =>
    intro room size m h
    rw [List.cons_append]
    unfold szF at h ⊢
    cases hq : f d (room - size) with
    | none => rw [hq] at h; simp at h
    | some k => rw [hq] at h; exact ih _ _ _ h
theorem graft_size {n : Nat} {s : ByteArray} {xa xb : TD} {ma mb : Int} (hs : tagOf xa = s.data.toList) (ha : szD (n + 1) xa 30 = some ma) (hb : szD n xb 30 = some mb) :
    szD (n + 1) (mkT s (kidsOf xa ++ [xb])) 30 = if ma + mb ≤ 30 then some (ma + mb) else none := by
  unfold szD at ha ⊢
  rw [mkT_tag, mkT_kids, ← hs]
  by_cases hc : (30 : Int) < 1 ∨ nameB (tagOf xa) = false
  · rw [if_pos hc] at ha; simp at ha
  · rw [if_neg hc] at ha ⊢
    rw [szF_snoc xb _ _ _ _ ha, szD_room n xb 30 mb hb]
    by_cases h : mb ≤ 30 - ma
    · rw [if_pos h, if_pos (by omega)]; rfl
    · rw [if_neg h, if_neg (by omega)]; rfl
theorem graft_text {n : Nat} {s : ByteArray} {xa xb : TD} (hs : tagOf xa = s.data.toList) : ∃ l, textD (n + 1) xa = l ++ footT xa ∧ textD (n + 1) (mkT s (kidsOf xa ++ [xb])) = l ++ textD n xb ++ footT xa := by
  refine ⟨headT xa ++ textK (textD n) (kidsOf xa), rfl, ?_⟩
  rw [show textD (n + 1) (mkT s (kidsOf xa ++ [xb])) = headT (mkT s (kidsOf xa ++ [xb])) ++ textK (textD n) (kidsOf xa ++ [xb]) ++ footT (mkT s (kidsOf xa ++ [xb])) from rfl, textK_append]
  have h1 : headT (mkT s (kidsOf xa ++ [xb])) = headT xa := by simp [headT, mkT_tag, hs]
  have h2 : footT (mkT s (kidsOf xa ++ [xb])) = footT xa := by simp [footT, mkT_tag, hs]
  rw [h1, h2]
  simp [textK]
theorem szF_len {H : Type} {f : DataW H → Int → Option Int} (hf : ∀ d room m, f d room = some m → 1 ≤ m) : ∀ (ds : List (DataW H)) (room size m : Int), szF f ds room size = some m → size + (ds.length : Int) ≤ m := by
  intro ds
  induction ds with
  | nil => intro room size m h; simp only [szF, Option.some.injEq] at h; simp; omega
  | cons d ds ih =>
    intro room size m h
    unfold szF at h
    cases hq : f d (room - size) with
    | none => rw [hq] at h; simp at h
    | some k =>
      rw [hq] at h
      have h1 := ih _ _ _ h
      have h2 := hf _ _ _ hq
      rw [List.length_cons]
      omega
theorem szD_small {H : Type} {n : Nat} {d : DataW H} {m : Int} (h : szD (n + 1) d 30 = some m) : (kidsOf d).length ≤ 30 ∧ (tagOf d).length ≤ 6 := by
  have hm := szD_range _ _ _ _ h
  unfold szD at h
  by_cases hc : (30 : Int) < 1 ∨ nameB (tagOf d) = false
  · rw [if_pos hc] at h; simp at h
  · rw [if_neg hc] at h
    have := szF_len (fun d r m q => (szD_range n d r m q).1) _ _ _ _ h
    refine ⟨by omega, nameB_length _ ?_⟩
    cases hq : nameB (tagOf d) with
    | true => rfl
    | false => exact absurd (Or.inr hq) hc
theorem ok_some {o : Option Int} (h : okB o = true) : ∃ m, o = some m := by
  cases o with
  | none => cases h
  | some m => exact ⟨m, rfl⟩
/-- the three texts -/
theorem graft_texts {n : Nat} {s : ByteArray} {xa xb : TD} {ma mb : Int} (hs : tagOf xa = s.data.toList) (ha : szD (n + 1) xa 30 = some ma) (hb : szD n xb 30 = some mb) (hm : ma + mb ≤ 30) :
    ∃ L : Nat, (textR (n + 1) xa).size = L + ((⟨#[60, 47]⟩ : ByteArray) ++ s ++ ⟨#[62]⟩).size ∧ (textR (n + 1) xa).size ≤ 510 ∧ (textR n xb).size ≤ 510 ∧
      (textR (n + 1) xa).extract 0 L ++ textR n xb ++ ((⟨#[60, 47]⟩ : ByteArray) ++ s ++ ⟨#[62]⟩) = textR (n + 1) (mkT s (kidsOf xa ++ [xb])) := by
  obtain ⟨l, e1, e2⟩ := graft_text (n := n) (xb := xb) hs
  have r1 := textR_yes (n := n + 1) (d := xa) (by rw [ha]; rfl)
  have r2 := textR_yes (n := n) (d := xb) (by rw [hb]; rfl)
  have r3 := textR_yes (n := n + 1) (d := mkT s (kidsOf xa ++ [xb])) (by rw [graft_size hs ha hb, if_pos hm]; rfl)
  have t1 := szD_text _ _ _ _ ha
  have t2 := szD_text _ _ _ _ hb
  have m1 := szD_range _ _ _ _ ha
  have m2 := szD_range _ _ _ _ hb
  have hf : ((⟨#[60, 47]⟩ : ByteArray) ++ s ++ ⟨#[62]⟩).data.toList = footT xa := by rw [ba_app, ba_app, footT, hs]
  have d1 : (textR (n + 1) xa).data.toList = l ++ footT xa := by rw [r1, ← e1]
  have z1 := ba_len (textR (n + 1) xa)
  have z2 := ba_len ((⟨#[60, 47]⟩ : ByteArray) ++ s ++ ⟨#[62]⟩)
  have z3 := ba_len (textR n xb)
  have d2 : (textR n xb).data.toList = textD n xb := by rw [r2]
  rw [d1] at z1
  rw [hf] at z2
  rw [d2] at z3
  rw [e1] at t1
  rw [List.length_append] at z1 t1
  refine ⟨l.length, by omega, by omega, by omega, ba_eq ?_⟩
  rw [ba_app, ba_app, hf, d2, r3]
  rw [show ((textR (n + 1) xa).extract 0 l.length).data.toList = l by rw [ByteArray.data_extract, Array.toList_extract, d1]; simp]
  exact e2.symm
end Go.Proofs.Ytapjplecdfemeaa
