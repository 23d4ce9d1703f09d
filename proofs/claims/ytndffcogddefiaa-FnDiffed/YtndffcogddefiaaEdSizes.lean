/- How an edit changes how great a tree is, and what stands at its path then: plain facts. -/
import Derived.Test.YtndffcogddefiaaEdPlain
import Derived.Test.YtndffcogddefiaaCntNine
import Derived.Test.YtndffcogddefiaaAtTops
namespace Go.Proofs.Ytndffcogddefiaa
open Go.RowKit
theorem szF_more {f g : TD → Int → Option Int} (hfg : ∀ d r r' q, r ≤ r' → f d r = some q → g d r' = some q) : ∀ (ds : List TD) (room room' size m : Int), room ≤ room' → szF f ds room size = some m → szF g ds room' size = some m := by
  intro ds
  induction ds with
  | nil => intro room room' size m _ h; simpa [szF] using h
  | cons d ds ih =>
    intro room room' size m hr h
    unfold szF at h
    split at h
    · cases h
    · rename_i q hq
      unfold szF
      rw [hfg d _ (room' - size) q (by omega) hq]
      exact ih room room' (size + q) m hr h
theorem szD_room : ∀ (n : Nat) (d : TD) (r r' q : Int), r ≤ r' → szD n d r = some q → szD n d r' = some q := by
  intro n
  induction n with
  | zero => intro d r r' q _ h; simp [szD] at h
  | succ n ih =>
    intro d r r' q hr h
    unfold szD at h ⊢
    split at h
    · cases h
    · rename_i hc
      rw [if_neg (fun q => hc (q.elim (fun q => Or.inl (by omega)) Or.inr))]
      exact szF_more ih _ _ _ _ _ hr h
theorem szD_moreE : ∀ (n : Nat) (d : TD) (r q : Int), szD n d r = some q → szD (n + 1) d r = some q := by
  intro n
  induction n with
  | zero => intro d r q h; simp [szD] at h
  | succ n ih =>
    intro d r q h
    unfold szD at h
    split at h
    · cases h
    · rename_i hc
      unfold szD
      rw [if_neg hc]
      exact szF_more (fun d r r' q hr h => szD_room _ _ _ _ _ hr (ih d r q h)) _ _ _ _ _ (Int.le_refl _) h
theorem ok_kid {n : Nat} {d : TD} {p : Int} (h : okB (szD n d 30) = true) (hp : inB d p = true) : okB (szD n (kidP d p) 30) = true := by
  cases e : szD n d 30 with
  | none => rw [e] at h; cases h
  | some m =>
    cases n with
    | zero => simp [szD] at e
    | succ n =>
      have hm := szD_range _ _ _ _ e
      unfold szD at e
      split at e
      · cases e
      · simp only [inB, Bool.and_eq_true, decide_eq_true_eq] at hp
        have hi : p.toNat < (kidsOf d).length := by omega
        obtain ⟨r, q, e2, h2⟩ := szF_mem (szD_range n) _ _ _ _ (by omega) e p.toNat hi
        have e3 : kidP d p = (kidsOf d)[p.toNat] := by simp [kidP, nth, List.getD, List.getElem?_eq_getElem hi]
        rw [e3, szD_room _ _ _ 30 _ (by omega) (szD_moreE _ _ _ _ e2)]
        rfl
theorem ok_ends {n : Nat} : ∀ (path : List Int) {d : TD}, okB (szD n d 30) = true → okP d path = true → okB (szD n (endP d path) 30) = true := by
  intro path
  induction path with
  | nil => intro d h _; exact h
  | cons p ps ih =>
    intro d h hp
    simp only [okP, Bool.and_eq_true] at hp
    exact ih (ok_kid h hp.1) hp.2
/-- as many paths as nodes -/
theorem szF_cntE {f : TD → Int → Option Int} {cnt : TD → Nat} (hf : ∀ d r q, f d r = some q → (cnt d : Int) = q) : ∀ (ds : List TD) (room size m : Int), szF f ds room size = some m → size + (cntL cnt ds : Int) = m := by
  intro ds
  induction ds with
  | nil => intro room size m h; simp [szF] at h; rw [cntL_nil]; simp; omega
  | cons d ds ih =>
    intro room size m h
    unfold szF at h
    split at h
    · cases h
    · rename_i q hq
      have := ih room (size + q) m h
      have h2 := hf d _ q hq
      rw [cntL_cons]; push_cast; omega
theorem szD_cntE : ∀ (n : Nat) (d : TD) (room m : Int), szD n d room = some m → (cntTree n d : Int) = m := by
  intro n
  induction n with
  | zero => intro d room m h; simp [szD] at h
  | succ n ih =>
    intro d room m h
    unfold szD at h
    split at h
    · cases h
    · have := szF_cntE (fun d r q hq => ih d r q hq) _ _ _ _ h
      simp only [cntTree]
      omega

def sizeB (x : TD) : Int := resI (szD 31 x 30)
def Good (n : Nat) (x : TD) : Prop := ∃ (r m : Int), szD n x r = some m
theorem szD_moreN {n : Nat} {d : TD} {r q : Int} : ∀ k, szD n d r = some q → szD (n + k) d r = some q := by
  intro k h
  induction k with
  | zero => exact h
  | succ k ih => exact szD_moreE _ _ _ _ ih
theorem good_same {n m : Nat} {x : TD} (h : Good n x) (q : Good m x) : cntTree n x = cntTree m x := by
  obtain ⟨r, a, h⟩ := h
  obtain ⟨s, b, q⟩ := q
  have h1 := szD_cntE _ _ _ _ h
  have h2 := szD_cntE _ _ _ _ q
  have h3 := szD_room _ _ r (max r s) _ (by omega) (szD_moreN m h)
  have h4 := szD_room _ _ s (max r s) _ (by omega) (szD_moreN n q)
  rw [Nat.add_comm m n] at h4
  rw [h3] at h4
  injection h4 with h4
  omega
theorem good_pos {n : Nat} {x : TD} (h : Good n x) : ∃ k, n = k + 1 := by
  obtain ⟨r, a, h⟩ := h
  cases n with
  | zero => cases h
  | succ k => exact ⟨k, rfl⟩
theorem good_kid {n : Nat} {d : TD} {p : Int} (h : Good (n + 1) d) (hp : inB d p = true) : Good n (kidP d p) := by
  obtain ⟨r, m, h⟩ := h
  have hi : p.toNat < (kidsOf d).length := by
    simp only [inB, Bool.and_eq_true, decide_eq_true_eq] at hp
    omega
  have h1 : 1 ≤ r := by
    rcases Int.lt_or_le r 1 with q | q
    · rw [szD_no (Or.inl q)] at h; cases h
    · exact q
  have h2 : nameB (tagOf d) = true := by
    cases e : nameB (tagOf d)
    · rw [szD_no (Or.inr e)] at h; cases h
    · rfl
  rw [szD_yes h1 h2] at h
  have key : ∀ (ds : List TD) (i : Nat) (size : Int), i < ds.length → szF (szD n) ds r size = some m → Good n (nth ds i) := by
    intro ds
    induction ds with
    | nil => intro i size hi; cases hi
    | cons x ds ih =>
      intro i size hi hs
      unfold szF at hs
      cases e : szD n x (r - size) with
      | none => rw [e] at hs; cases hs
      | some q =>
        rw [e] at hs
        cases i with
        | zero => exact ⟨_, _, e⟩
        | succ i => exact ih i _ (by simpa using hi) hs
  exact key _ _ _ hi h
theorem good_ends : ∀ (q : List Int) {n : Nat} {d : TD}, Good n d → okP d q = true → q.length ≤ n ∧ Good (n - q.length) (endP d q) := by
  intro q
  induction q with
  | nil => intro n d h _; exact ⟨Nat.zero_le _, h⟩
  | cons p ps ih =>
    intro n d h hok
    obtain ⟨k, rfl⟩ := good_pos h
    have hok' : inB d p = true ∧ okP (kidP d p) ps = true := by simpa [okP] using hok
    obtain ⟨h1, h2⟩ := ih (good_kid h hok'.1) hok'.2
    refine ⟨by simp; omega, ?_⟩
    have e : k + 1 - (p :: ps).length = k - ps.length := by simp
    rw [e]
    exact h2
theorem treeB_good {x : TD} (h : treeB x = true) : Good 31 x := by
  unfold treeB at h
  cases e : szD 31 x 30 with
  | none => rw [e] at h; cases h
  | some m => exact ⟨30, m, e⟩
theorem sizeB_cnt {x : TD} (h : treeB x = true) : sizeB x = (cntTree 31 x : Int) := by
  unfold treeB at h
  unfold sizeB
  cases e : szD 31 x 30 with
  | none => rw [e] at h; cases h
  | some m => exact (szD_cntE _ _ _ _ e).symm
theorem cntL_app {cnt : TD → Nat} : ∀ (xs ys : List TD), cntL cnt (xs ++ ys) = cntL cnt xs + cntL cnt ys := by
  intro xs
  induction xs with
  | nil => intro ys; rw [List.nil_append, cntL_nil]; omega
  | cons x xs ih => intro ys; rw [List.cons_append, cntL_cons, cntL_cons, ih]; omega
theorem cntL_set {cnt : TD → Nat} : ∀ (ks : List TD) (i : Nat) (z : TD), i < ks.length → cntL cnt (ks.set i z) + cnt (nth ks i) = cntL cnt ks + cnt z := by
  intro ks
  induction ks with
  | nil => intro i z h; cases h
  | cons x ks ih =>
    intro i z h
    cases i with
    | zero => rw [List.set_cons_zero, cntL_cons, cntL_cons]; show _ + cnt x = _; omega
    | succ i =>
      have := ih i z (by simpa using h)
      rw [List.set_cons_succ, cntL_cons, cntL_cons]
      show cnt x + _ + cnt (nth ks i) = _
      omega
theorem cntL_erase {cnt : TD → Nat} : ∀ (ks : List TD) (i : Nat), i < ks.length → cntL cnt (ks.eraseIdx i) + cnt (nth ks i) = cntL cnt ks := by
  intro ks
  induction ks with
  | nil => intro i h; cases h
  | cons x ks ih =>
    intro i h
    cases i with
    | zero => rw [List.eraseIdx_cons_zero, cntL_cons]; show _ + cnt x = _; omega
    | succ i =>
      have := ih i (by simpa using h)
      rw [List.eraseIdx_cons_succ, cntL_cons, cntL_cons]
      show cnt x + _ + cnt (nth ks i) = _
      omega
theorem cntL_ins {cnt : TD → Nat} (ks : List TD) (i : Nat) (z : TD) : cntL cnt (insK ks i z) = cntL cnt ks + cnt z := by
  unfold insK
  rw [cntL_app, cntL_cons]
  have h := cntL_app (cnt := cnt) (ks.take i) (ks.drop i)
  rw [List.take_append_drop] at h
  omega
theorem kids_mkT (s : ByteArray) (ks : List TD) : kidsOf (mkT s ks) = ks := rfl
theorem inB_lt {d : TD} {p : Int} (h : inB d p = true) : p.toNat < (kidsOf d).length := by
  simp only [inB, Bool.and_eq_true, decide_eq_true_eq] at h
  omega
theorem nth_set (ks : List TD) (i : Nat) (z : TD) (h : i < ks.length) : nth (ks.set i z) i = z := by
  unfold nth
  simp [List.getD, h]
theorem set_cnt : ∀ (q : List Int) {n : Nat} {d y : TD}, okP d q = true → q.length ≤ n → cntTree n (setP d q y) + cntTree (n - q.length) (endP d q) = cntTree n d + cntTree (n - q.length) y := by
  intro q
  induction q with
  | nil => intro n d y _ _; show cntTree n y + cntTree n d = _; exact Nat.add_comm _ _
  | cons p ps ih =>
    intro n d y hok hn
    obtain ⟨k, rfl⟩ : ∃ k, n = k + 1 := ⟨n - 1, by simp at hn; omega⟩
    have hok' : inB d p = true ∧ okP (kidP d p) ps = true := by simpa [okP] using hok
    have e : k + 1 - (p :: ps).length = k - ps.length := by simp
    have h := ih (n := k) (y := y) hok'.2 (by simpa using hn)
    have h2 := cntL_set (cnt := cntTree k) (kidsOf d) p.toNat (setP (kidP d p) ps y) (inB_lt hok'.1)
    rw [e]
    show (1 + cntL (cntTree k) ((kidsOf d).set p.toNat (setP (kidP d p) ps y))) + cntTree (k - ps.length) (endP (kidP d p) ps) = (1 + cntL (cntTree k) (kidsOf d)) + _
    have h3 : cntTree k (nth (kidsOf d) p.toNat) = cntTree k (kidP d p) := rfl
    omega
theorem set_ok : ∀ (q : List Int) {d y : TD} (r : List Int), okP d q = true → okP (setP d q y) (q ++ r) = okP y r ∧ endP (setP d q y) (q ++ r) = endP y r := by
  intro q
  induction q with
  | nil => intro d y r _; exact ⟨rfl, rfl⟩
  | cons p ps ih =>
    intro d y r hok
    have hok' : inB d p = true ∧ okP (kidP d p) ps = true := by simpa [okP] using hok
    have hk : kidP (setP d (p :: ps) y) p = setP (kidP d p) ps y := nth_set _ _ _ (inB_lt hok'.1)
    have hin : inB (setP d (p :: ps) y) p = true := by
      have h := hok'.1
      simp only [inB, Bool.and_eq_true, decide_eq_true_eq] at h ⊢
      show 0 ≤ p ∧ p < (((kidsOf d).set p.toNat (setP (kidP d p) ps y)).length : Int)
      rw [List.length_set]
      exact h
    obtain ⟨h1, h2⟩ := ih (d := kidP d p) (y := y) r hok'.2
    refine ⟨?_, ?_⟩
    · show (inB (setP d (p :: ps) y) p && okP (kidP (setP d (p :: ps) y) p) (ps ++ r)) = okP y r
      rw [hin, hk, Bool.true_and]
      exact h1
    · show endP (kidP (setP d (p :: ps) y) p) (ps ++ r) = _
      rw [hk]
      exact h2
theorem ok_snoc : ∀ (q : List Int) {d : TD} {p : Int}, okP d (q ++ [p]) = true → okP d q = true ∧ inB (endP d q) p = true := by
  intro q
  induction q with
  | nil => intro d p h; exact ⟨rfl, by simpa [okP, endP] using h⟩
  | cons x q ih =>
    intro d p h
    have h' : inB d x = true ∧ okP (kidP d x) (q ++ [p]) = true := by simpa [okP] using h
    obtain ⟨h1, h2⟩ := ih h'.2
    exact ⟨by simp [okP, h'.1, h1], h2⟩
theorem strT_mkT (s : ByteArray) (ks : List TD) : strT (mkT s ks) = s := by
  show (⟨s.data.toList.toArray⟩ : ByteArray) = s
  rw [Array.toArray_toList]
/-- what an edit that is done does -/
theorem edited_facts {d u : TD} {e : EditD} (h : editedD d e = some u) : treeB d = true ∧ treeB u = true ∧
    ((e.vKind = 1 ∧ treeB e.vTree = true ∧ sizeB u - sizeB d = sizeB e.vTree ∧ okP u e.vPath = true ∧ endP u e.vPath = e.vTree)
    ∨ (e.vKind = 2 ∧ okP d e.vPath = true ∧ sizeB u - sizeB d = - sizeB (endP d e.vPath))
    ∨ (e.vKind = 3 ∧ sizeB u - sizeB d = 0 ∧ okP u e.vPath = true ∧ strT (endP u e.vPath) = e.vTag)) := by
  unfold editedD at h
  by_cases hdf : treeB d = true ∧ formB e = true
  · rw [if_pos hdf] at h
    obtain ⟨hd, hf⟩ := hdf
    cases hp : putD e.vKind e.vTag e.vTree e.vPath d with
    | none => rw [hp] at h; cases h
    | some x =>
      rw [hp] at h
      by_cases hx : treeB x = true
      · have h' : x = u := by simpa [hx] using h
        subst h'
        refine ⟨hd, hx, ?_⟩
        have gd := treeB_good hd
        have gx := treeB_good hx
        rw [sizeB_cnt hd, sizeB_cnt hx]
        unfold formB at hf
        by_cases k1 : e.vKind = 1
        · left
          rw [if_pos k1] at hf
          simp only [Bool.and_eq_true, decide_eq_true_eq] at hf
          obtain ⟨⟨_, hlen⟩, htr⟩ := hf
          obtain ⟨q, p, hqp⟩ : ∃ q p, e.vPath = q ++ [p] := ⟨_, _, (List.dropLast_concat_getLast (List.ne_nil_of_length_pos hlen)).symm⟩
          rw [k1, hqp, putD_insert] at hp
          by_cases hc : okP d q = true ∧ 0 ≤ p ∧ p ≤ ((kidsOf (endP d q)).length : Int)
          · rw [if_pos hc] at hp
            injection hp with hp
            obtain ⟨hn, gq⟩ := good_ends q gd hc.1
            obtain ⟨m, hm⟩ := good_pos gq
            have hs := set_cnt q (n := 31) (d := d) (y := mkT (strT (endP d q)) (insK (kidsOf (endP d q)) p.toNat e.vTree)) hc.1 hn
            rw [hp, hm] at hs
            have hi : cntTree (m + 1) (mkT (strT (endP d q)) (insK (kidsOf (endP d q)) p.toNat e.vTree)) = cntTree (m + 1) (endP d q) + cntTree m e.vTree := by
              show 1 + cntL (cntTree m) (insK (kidsOf (endP d q)) p.toNat e.vTree) = (1 + cntL (cntTree m) (kidsOf (endP d q))) + _
              rw [cntL_ins]; omega
            obtain ⟨o1, o2⟩ := set_ok q (d := d) (y := mkT (strT (endP d q)) (insK (kidsOf (endP d q)) p.toNat e.vTree)) [p] hc.1
            rw [hp] at o1 o2
            have hin : inB (mkT (strT (endP d q)) (insK (kidsOf (endP d q)) p.toNat e.vTree)) p = true := by
              simp only [inB, Bool.and_eq_true, decide_eq_true_eq]
              rw [kids_mkT]
              unfold insK
              simp
              omega
            have hkid : kidP (mkT (strT (endP d q)) (insK (kidsOf (endP d q)) p.toNat e.vTree)) p = e.vTree := by
              unfold kidP nth
              rw [kids_mkT]
              unfold insK
              simp [List.getD, List.getElem?_append, List.length_take]
              have : min p.toNat (kidsOf (endP d q)).length = p.toNat := by omega
              rw [this]; simp
            have ok1 : okP x (q ++ [p]) = true := by rw [o1]; simp [okP, hin]
            have en1 : endP x (q ++ [p]) = e.vTree := by rw [o2]; exact hkid
            obtain ⟨_, gt⟩ := good_ends (q ++ [p]) gx ok1
            rw [en1] at gt
            have hm2 : 31 - (q ++ [p]).length = m := by rw [List.length_append, List.length_singleton]; omega
            rw [hm2] at gt
            have hsame := good_same gt (treeB_good htr)
            rw [sizeB_cnt htr, hqp]
            refine ⟨k1, htr, ?_, ok1, en1⟩
            omega
          · rw [if_neg hc] at hp; cases hp
        · rw [if_neg k1] at hf
          by_cases k2 : e.vKind = 2
          · right; left
            rw [if_pos k2] at hf
            simp only [Bool.and_eq_true, decide_eq_true_eq] at hf
            obtain ⟨⟨_, hlen⟩, _⟩ := hf
            obtain ⟨q, p, hqp⟩ : ∃ q p, e.vPath = q ++ [p] := ⟨_, _, (List.dropLast_concat_getLast (List.ne_nil_of_length_pos hlen)).symm⟩
            rw [k2, hqp, putD_delete] at hp
            by_cases hc : okP d (q ++ [p]) = true
            · rw [if_pos hc] at hp
              injection hp with hp
              obtain ⟨hq, hin⟩ := ok_snoc q hc
              obtain ⟨hn, gq⟩ := good_ends q gd hq
              obtain ⟨m, hm⟩ := good_pos gq
              have hs := set_cnt q (n := 31) (d := d) (y := mkT (strT (endP d q)) ((kidsOf (endP d q)).eraseIdx p.toNat)) hq hn
              rw [hp, hm] at hs
              have hi : cntTree (m + 1) (mkT (strT (endP d q)) ((kidsOf (endP d q)).eraseIdx p.toNat)) + cntTree m (kidP (endP d q) p) = cntTree (m + 1) (endP d q) := by
                have h9 := cntL_erase (cnt := cntTree m) (kidsOf (endP d q)) p.toNat (inB_lt hin)
                show (1 + cntL (cntTree m) ((kidsOf (endP d q)).eraseIdx p.toNat)) + cntTree m (nth (kidsOf (endP d q)) p.toNat) = 1 + cntL (cntTree m) (kidsOf (endP d q))
                omega
              have en : endP d (q ++ [p]) = kidP (endP d q) p := by unfold endP; rw [List.foldl_append]; rfl
              have ht : treeB (endP d (q ++ [p])) = true := ok_ends (q ++ [p]) hd hc
              obtain ⟨_, gt⟩ := good_ends (q ++ [p]) gd hc
              have hm2 : 31 - (q ++ [p]).length = m := by rw [List.length_append, List.length_singleton]; omega
              rw [hm2] at gt
              have hsame := good_same gt (treeB_good ht)
              rw [hqp, sizeB_cnt ht]
              refine ⟨k2, hc, ?_⟩
              rw [en] at hsame ⊢
              omega
            · rw [if_neg hc] at hp; cases hp
          · right; right
            rw [if_neg k2] at hf
            simp only [Bool.and_eq_true, decide_eq_true_eq] at hf
            obtain ⟨⟨k3, _⟩, _⟩ := hf
            rw [k3, putD_rename] at hp
            by_cases hc : okP d e.vPath = true
            · rw [if_pos hc] at hp
              injection hp with hp
              obtain ⟨hn, gq⟩ := good_ends e.vPath gd hc
              obtain ⟨m, hm⟩ := good_pos gq
              have hs := set_cnt e.vPath (n := 31) (d := d) (y := mkT e.vTag (kidsOf (endP d e.vPath))) hc hn
              rw [hp, hm] at hs
              have hi : cntTree (m + 1) (mkT e.vTag (kidsOf (endP d e.vPath))) = cntTree (m + 1) (endP d e.vPath) := rfl
              obtain ⟨o1, o2⟩ := set_ok e.vPath (d := d) (y := mkT e.vTag (kidsOf (endP d e.vPath))) [] hc
              rw [hp, List.append_nil] at o1 o2
              refine ⟨k3, by omega, o1, ?_⟩
              rw [o2]
              exact strT_mkT _ _
            · rw [if_neg hc] at hp; cases hp
      · simp [hx] at h
  · rw [if_neg hdf] at h; cases h
end Go.Proofs.Ytndffcogddefiaa
