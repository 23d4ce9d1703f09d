/- The edits from one tree to another one lead there: plain. -/
import Derived.Test.YtndffcogddefiaaDfPlain
import Derived.Test.YtndffcogddefiaaEdBack
import Derived.Test.YtndffcogddefiaaEdAll
namespace Go.Proofs.Ytndffcogddefiaa
open Go.RowKit
/-- an edit, one path further down -/
def preE (i : Int) (e : EditD) : EditD := { e with vPath := i :: e.vPath }
theorem cuts_pre : ∀ (n : Nat) (a b : TD) (i : Int) (p : List Int), cutsD n a b (i :: p) = (cutsD n a b p).map (preE i) := by
  intro n
  induction n with
  | zero => intro a b i p; rfl
  | succ n ih =>
    intro a b i p
    have e1 : renJ a b (i :: p) = (renJ a b p).map (preE i) := by unfold renJ; split <;> rfl
    have e2 : ∀ la j, delJ (i :: p) la j = (delJ p la j).map (preE i) := fun la j => by unfold delJ; rw [List.map_map]; rfl
    have e3 : ∀ j, cutJ (cutsD n) a b (i :: p) j = (cutJ (cutsD n) a b p j).map (preE i) := fun j => by
      induction j with
      | zero => rfl
      | succ j ihj => rw [cutJ_succ, cutJ_succ, List.map_append, ihj, List.cons_append, ih]
    show renJ a b (i :: p) ++ _ ++ _ = (renJ a b p ++ _ ++ _).map (preE i)
    rw [e1, e2, e3, List.map_append, List.map_append]
theorem grow_pre : ∀ (n : Nat) (a b : TD) (i : Int) (p : List Int), growD n a b (i :: p) = (growD n a b p).map (preE i) := by
  intro n
  induction n with
  | zero => intro a b i p; rfl
  | succ n ih =>
    intro a b i p
    have e3 : ∀ j, growJ (growD n) a b (i :: p) j = (growJ (growD n) a b p j).map (preE i) := fun j => by
      induction j with
      | zero => rfl
      | succ j ihj =>
        rw [growJ_succ, growJ_succ, List.map_append, ihj]
        congr 1
        split
        · rw [List.cons_append, ih]
        · rfl
    exact e3 _
/-- edits, one behind the other, all that comes between right in some sense -/
inductive Steps (Q : TD → Prop) : List EditD → TD → TD → Prop
  | nil (d : TD) : Steps Q [] d d
  | cons {e : EditD} {l : List EditD} {d y u : TD} : formB e = true → putD e.vKind e.vTag e.vTree e.vPath d = some y → Q y → Steps Q l y u → Steps Q (e :: l) d u
theorem Steps.app {Q : TD → Prop} {l m : List EditD} {d y u : TD} (h : Steps Q l d y) (q : Steps Q m y u) : Steps Q (l ++ m) d u := by
  induction h with
  | nil => exact q
  | cons h1 h2 h3 _ ih => exact .cons h1 h2 h3 (ih q)
theorem Steps.mono {Q P : TD → Prop} {l : List EditD} {d u : TD} (h : Steps Q l d u) (hp : ∀ y, Q y → P y) : Steps P l d u := by
  induction h with
  | nil d => exact .nil d
  | cons h1 h2 h3 _ ih => exact .cons h1 h2 (hp _ h3) ih
theorem Steps.one {Q : TD → Prop} {e : EditD} {d y : TD} (h1 : formB e = true) (h2 : putD e.vKind e.vTag e.vTree e.vPath d = some y) (h3 : Q y) : Steps Q [e] d y := .cons h1 h2 h3 (.nil y)
theorem form_pre {e : EditD} {i : Int} (h : formB e = true) : formB (preE i e) = true := by
  rcases form_kind h with q | q | q
  · simp only [formB, preE, q] at h ⊢
    simp at h ⊢
    exact ⟨h.1.1, h.2⟩
  · simp only [formB, preE, q] at h ⊢
    simp at h ⊢
    exact ⟨h.1.1, h.2⟩
  · simp only [formB, preE, q] at h ⊢
    simp at h ⊢
    exact h
theorem form_path {e : EditD} (h : formB e = true) : e.vPath = [] → e.vKind = 3 := by
  intro hp
  rcases form_kind h with q | q | q
  · simp [formB, q, hp] at h
  · simp [formB, q, hp] at h
  · exact q
/-- edits of a kid are edits of the tree -/
theorem Steps.kid {Q P : TD → Prop} {l : List EditD} {k k' : TD} (h : Steps Q l k k') : ∀ {y : TD} {i : Nat}, i < (kidsOf y).length → nth (kidsOf y) i = k → (∀ z, Q z → P (mkT (strT y) ((kidsOf y).set i z))) →
    ∃ y', Steps P (l.map (preE (i : Int))) y y' ∧ strT y' = strT y ∧ kidsOf y' = (kidsOf y).set i k' := by
  induction h with
  | nil d =>
    intro y i hi hk _
    refine ⟨y, .nil y, rfl, ?_⟩
    rw [← hk, nth_get hi, List.set_getElem_self]
  | @cons e l d z u h1 h2 h3 _ ih =>
    intro y i hi hk hp
    have hin : inB y (i : Int) = true := by simp only [inB, Bool.and_eq_true, decide_eq_true_eq]; omega
    have hkid : kidP y (i : Int) = d := by unfold kidP; rw [Int.toNat_natCast]; exact hk
    have e1 : putD (preE (i : Int) e).vKind (preE (i : Int) e).vTag (preE (i : Int) e).vTree (preE (i : Int) e).vPath y = some (mkT (strT y) ((kidsOf y).set i z)) := by
      show putD e.vKind e.vTag e.vTree ((i : Int) :: e.vPath) y = _
      rw [putD_step (form_path h1), if_pos hin, hkid, h2, Option.map_some, Int.toNat_natCast]
    have hl : ((kidsOf y).set i z).length = (kidsOf y).length := List.length_set
    obtain ⟨y', s1, s2, s3⟩ := ih (y := mkT (strT y) ((kidsOf y).set i z)) (i := i) (by rw [kids_mkT, hl]; exact hi) (by rw [kids_mkT]; exact nth_set _ _ _ hi) (fun z' q => by
      rw [strT_mkT, kids_mkT, List.set_set]; exact hp z' q)
    refine ⟨y', .cons (form_pre h1) e1 (hp z h3) s1, by rw [s2, strT_mkT], by rw [s3, kids_mkT, List.set_set]⟩
/-- a tree within another one: no wider and no deeper anywhere, its tags names -/
def Wi : Nat → TD → TD → Prop
  | 0, _, _ => True
  | n + 1, y, b => nameB (tagOf y) = true ∧ (kidsOf y).length ≤ (kidsOf b).length ∧ ∀ i, i < (kidsOf y).length → Wi n (nth (kidsOf y) i) (nth (kidsOf b) i)
theorem Wi.set {n : Nat} {y b z : TD} {i : Nat} (h : Wi (n + 1) y b) (hz : Wi n z (nth (kidsOf b) i)) : Wi (n + 1) (mkT (strT y) ((kidsOf y).set i z)) b := by
  refine ⟨h.1, by rw [kids_mkT, List.length_set]; exact h.2.1, fun j hj => ?_⟩
  rw [kids_mkT] at hj ⊢
  rw [List.length_set] at hj
  by_cases e : j = i
  · subst e; rw [nth_set _ _ _ hj]; exact hz
  · have : nth ((kidsOf y).set i z) j = nth (kidsOf y) j := by simp [nth, List.getElem?_set_ne (Ne.symm e)]
    rw [this]; exact h.2.2 j hj
theorem good_name {n : Nat} {x : TD} (h : Good (n + 1) x) : nameB (tagOf x) = true := by
  obtain ⟨r, m, h⟩ := h
  cases e : nameB (tagOf x)
  · rw [szD_no (Or.inr e)] at h; cases h
  · rfl
theorem good_nth {n : Nat} {x : TD} {i : Nat} (h : Good (n + 1) x) (hi : i < (kidsOf x).length) : Good n (nth (kidsOf x) i) := by
  have := good_kid h (p := (i : Int)) (by simp only [inB, Bool.and_eq_true, decide_eq_true_eq]; omega)
  unfold kidP at this
  rwa [Int.toNat_natCast] at this
theorem szD_fit {n : Nat} {x : TD} {r m r' : Int} (h : szD n x r = some m) (hm : m ≤ r') : szD n x r' = some m := by
  induction n generalizing x r m r' with
  | zero => cases h
  | succ n ih =>
    have h1 := szD_range _ _ _ _ h
    have hr : ¬ r < 1 := by omega
    have hn : nameB (tagOf x) = true := good_name ⟨r, m, h⟩
    have key : ∀ (ds : List TD) (s m : Int), 1 ≤ s → szF (szD n) ds r s = some m → m ≤ r' → szF (szD n) ds r' s = some m := by
      intro ds
      induction ds with
      | nil => intro s m _ h _; exact h
      | cons d ds ihd =>
        intro s m hs h hm
        unfold szF at h ⊢
        cases e : szD n d (r - s) with
        | none => rw [e] at h; cases h
        | some q =>
          rw [e] at h
          have hq := szD_range _ _ _ _ e
          have h2 : s + q ≤ m := by have := szF_cntE (fun d r q hq => szD_cntE n d r q hq) _ _ _ _ h; omega
          rw [ih e (r' := r' - s) (by omega)]
          exact ihd (s + q) m (by omega) h hm
    rw [szD_yes (by omega) hn] at h
    rw [szD_yes (by omega) hn]
    exact key _ _ _ (by omega) h hm
theorem szF_of {n : Nat} : ∀ (ds : List TD) (s r : Int), (∀ i, i < ds.length → Good n (nth ds i)) → s + (cntL (cntTree n) ds : Int) ≤ r → ∃ m, szF (szD n) ds r s = some m := by
  intro ds
  induction ds with
  | nil => intro s r _ _; exact ⟨s, rfl⟩
  | cons d ds ih =>
    intro s r h hr
    rw [cntL_cons] at hr
    obtain ⟨r0, m0, h0⟩ := h 0 (by simp)
    have h0' : szD n d r0 = some m0 := h0
    have hc := szD_cntE _ _ _ _ h0'
    have h1 := szD_fit h0' (r' := r - s) (by push_cast at hr; omega)
    unfold szF
    rw [h1]
    exact ih (s + m0) r (fun i hi => h (i + 1) (by simp; omega)) (by push_cast at hr; omega)
theorem good_mk {n : Nat} {x : TD} (hn : nameB (tagOf x) = true) (hk : ∀ i, i < (kidsOf x).length → Good n (nth (kidsOf x) i)) : Good (n + 1) x := by
  obtain ⟨m, h⟩ := szF_of (kidsOf x) 1 (1 + (cntL (cntTree n) (kidsOf x) : Int)) hk (Int.le_refl _)
  exact ⟨1 + (cntL (cntTree n) (kidsOf x) : Int), m, by rw [szD_yes (by omega) hn]; exact h⟩
theorem cntL_le {f : TD → Nat} : ∀ (ys bs : List TD), ys.length ≤ bs.length → (∀ i, i < ys.length → f (nth ys i) ≤ f (nth bs i)) → cntL f ys ≤ cntL f bs := by
  intro ys
  induction ys with
  | nil => intro bs _ _; rw [cntL_nil]; exact Nat.zero_le _
  | cons y ys ih =>
    intro bs hl h
    cases bs with
    | nil => simp at hl
    | cons b bs =>
      rw [cntL_cons, cntL_cons]
      have h0 : f y ≤ f b := h 0 (by simp)
      have h1 := ih bs (by simpa using hl) (fun i hi => h (i + 1) (by simp; omega))
      omega
theorem wi_good : ∀ (n : Nat) {y b : TD}, Wi n y b → Good n b → Good n y ∧ cntTree n y ≤ cntTree n b := by
  intro n
  induction n with
  | zero => intro y b _ h; obtain ⟨k, e⟩ := good_pos h; omega
  | succ n ih =>
    intro y b h hb
    have hk : ∀ i, (hi : i < (kidsOf y).length) → Good n (nth (kidsOf y) i) ∧ cntTree n (nth (kidsOf y) i) ≤ cntTree n (nth (kidsOf b) i) := fun i hi => ih (h.2.2 i hi) (good_nth hb (by have := h.2.1; omega))
    refine ⟨good_mk h.1 (fun i hi => (hk i hi).1), ?_⟩
    show 1 + cntL (cntTree n) (kidsOf y) ≤ 1 + cntL (cntTree n) (kidsOf b)
    have := cntL_le (f := cntTree n) _ _ h.2.1 (fun i hi => (hk i hi).2)
    omega
theorem wi_refl : ∀ (n : Nat) {x : TD}, Good n x → Wi n x x := by
  intro n
  induction n with
  | zero => intro x _; trivial
  | succ n ih => intro x h; exact ⟨good_name h, Nat.le_refl _, fun i hi => ih (good_nth h hi)⟩
theorem treeB_of {n : Nat} {x : TD} (h : Good n x) (hc : cntTree n x ≤ 30) : treeB x = true := by
  obtain ⟨r, m, h⟩ := h
  have he := szD_cntE _ _ _ _ h
  have h1 := szD_fit h (r' := 30) (by omega)
  unfold treeB
  rcases Nat.lt_or_ge 31 n with q | q
  · rw [← szD_more n 31 x 30 (by omega) (by omega), h1]; rfl
  · obtain ⟨k, hk⟩ : ∃ k, 31 = n + k := ⟨31 - n, by omega⟩
    rw [hk, szD_moreN k h1]; rfl
/-- what is left of one tree, within another one -/
def CutOf : Nat → TD → TD → TD → Prop
  | 0, _, _, _ => True
  | n + 1, a, b, u => tagOf u = tagOf b ∧ (kidsOf u).length = min (kidsOf a).length (kidsOf b).length ∧ ∀ i, i < (kidsOf u).length → CutOf n (nth (kidsOf a) i) (nth (kidsOf b) i) (nth (kidsOf u) i)
theorem cut_wi : ∀ (n : Nat) {a b u : TD}, CutOf n a b u → Good n b → Wi n u b := by
  intro n
  induction n with
  | zero => intro a b u _ _; trivial
  | succ n ih =>
    intro a b u h hb
    refine ⟨by rw [h.1]; exact good_name hb, by have := h.2.1; omega, fun i hi => ih (h.2.2 i hi) (good_nth hb (by have := h.2.1; omega))⟩
theorem str_tag {a b : TD} (h : strT a = strT b) : tagOf a = tagOf b := by
  have : (strT a).data.toList = (strT b).data.toList := by rw [h]
  simpa [strT] using this
theorem nth_set_ne {ks : List TD} {i j : Nat} {z : TD} (e : j ≠ i) : nth (ks.set i z) j = nth ks j := by simp [nth, List.getElem?_set_ne (Ne.symm e)]
theorem nth_take {ks : List TD} {i j : Nat} (h : i < j) : nth (ks.take j) i = nth ks i := by simp [nth, List.getElem?_take_of_lt h]
theorem rename_lead {n : Nat} {a b : TD} (ha : Good (n + 1) a) (hb : Good (n + 1) b) : ∃ y, Steps (fun x => Wi (n + 1) x a) (renJ a b []) a y ∧ tagOf y = tagOf b ∧ kidsOf y = kidsOf a := by
  unfold renJ
  split
  · next h => exact ⟨a, .nil a, str_tag h, rfl⟩
  · refine ⟨mkT (strT b) (kidsOf a), Steps.one ?_ rfl ?_, ?_, rfl⟩
    · have := good_name hb
      simp [formB, renE, strT, emT, emS, zeroT, this]
      exact ⟨rfl, rfl⟩
    · exact ⟨by rw [mkT_tag]; have := good_name hb; simpa [strT] using this, Nat.le_refl _, fun i hi => (by have := good_nth ha (i := i) hi; exact wi_refl n this)⟩
    · rw [mkT_tag]; simp [strT]
theorem take_erase (ks : List TD) (j : Nat) (h : j < ks.length) : (ks.take (j + 1)).eraseIdx j = ks.take j := by
  rw [List.take_succ_eq_append_getElem h, List.eraseIdx_append_of_length_le (by rw [List.length_take]; omega)]
  have : j - (ks.take j).length = 0 := by rw [List.length_take]; omega
  rw [this]; simp
theorem wi_take {n : Nat} {a y : TD} {j : Nat} (ha : Good (n + 1) a) (ht : nameB (tagOf y) = true) (hk : kidsOf y = (kidsOf a).take j) : Wi (n + 1) y a := by
  refine ⟨ht, by rw [hk, List.length_take]; omega, fun i hi => ?_⟩
  rw [hk] at hi ⊢
  rw [List.length_take] at hi
  rw [nth_take (by omega)]
  exact wi_refl n (good_nth ha (by omega))
theorem del_lead {n : Nat} {a y : TD} (ha : Good (n + 1) a) (ht : nameB (tagOf y) = true) (hk : kidsOf y = kidsOf a) : ∀ j, j ≤ (kidsOf a).length → ∃ u, Steps (fun x => Wi (n + 1) x a) (delJ [] (kidsOf a).length j) y u ∧ tagOf u = tagOf y ∧ kidsOf u = (kidsOf a).take ((kidsOf a).length - j) := by
  intro j
  induction j with
  | zero => intro _; exact ⟨y, .nil y, rfl, by rw [hk, Nat.sub_zero, List.take_length]⟩
  | succ j ih =>
    intro hj
    obtain ⟨u, s, t, k⟩ := ih (by omega)
    have hlen : (kidsOf u).length = (kidsOf a).length - j := by rw [k, List.length_take]; omega
    have hkid : (kidsOf u).eraseIdx ((kidsOf a).length - 1 - j) = (kidsOf a).take ((kidsOf a).length - (j + 1)) := by
      rw [k, show (kidsOf a).length - j = ((kidsOf a).length - 1 - j) + 1 by omega, take_erase _ _ (by omega), show (kidsOf a).length - (j + 1) = (kidsOf a).length - 1 - j by omega]
    rw [delJ_succ]
    refine ⟨mkT (strT u) ((kidsOf u).eraseIdx ((kidsOf a).length - 1 - j)), s.app (Steps.one ?_ ?_ ?_), ?_, ?_⟩
    · simp [formB, delE, emT, emS, zeroT]; exact ⟨rfl, rfl⟩
    · show putD 2 _ _ [(((kidsOf a).length - 1 - j : Nat) : Int)] u = _
      unfold putD
      rw [if_neg (by simp), if_pos (by simp only [inB, Bool.and_eq_true, decide_eq_true_eq]; omega), if_pos (by simp), Int.toNat_natCast]
    · exact wi_take ha (by rw [mkT_tag]; have := t ▸ ht; simpa [strT, t] using ht) (by rw [kids_mkT, hkid])
    · rw [mkT_tag]; simp [strT, t]
    · rw [kids_mkT, hkid]
theorem tag_of_str {y u : TD} (h : strT y = strT u) : tagOf y = tagOf u := str_tag h
theorem cuts_lead : ∀ (n : Nat) {a b : TD}, Good n a → Good n b → ∃ u, Steps (fun x => Wi n x a) (cutsD n a b []) a u ∧ CutOf n a b u ∧ Wi n u a := by
  intro n
  induction n with
  | zero => intro a b h _; obtain ⟨k, e⟩ := good_pos h; omega
  | succ n ih =>
    intro a b ha hb
    obtain ⟨y1, s1, t1, k1⟩ := rename_lead ha hb
    have hn1 : nameB (tagOf y1) = true := by rw [t1]; exact good_name hb
    obtain ⟨y2, s2, t2, k2⟩ := del_lead ha hn1 k1 ((kidsOf a).length - (kidsOf b).length) (by omega)
    have hl2 : (kidsOf a).length - ((kidsOf a).length - (kidsOf b).length) = min (kidsOf a).length (kidsOf b).length := by omega
    rw [hl2] at k2
    have w2 : Wi (n + 1) y2 a := wi_take ha (by rw [t2]; exact hn1) k2
    have key : ∀ j, j ≤ min (kidsOf a).length (kidsOf b).length → ∃ u, Steps (fun x => Wi (n + 1) x a) (cutJ (cutsD n) a b [] j) y2 u ∧ tagOf u = tagOf b ∧ (kidsOf u).length = min (kidsOf a).length (kidsOf b).length ∧ Wi (n + 1) u a ∧
        (∀ i, i < j → CutOf n (nth (kidsOf a) i) (nth (kidsOf b) i) (nth (kidsOf u) i)) ∧ (∀ i, j ≤ i → i < (kidsOf u).length → nth (kidsOf u) i = nth (kidsOf a) i) := by
      intro j
      induction j with
      | zero => intro _; exact ⟨y2, .nil y2, by rw [t2, t1], by rw [k2, List.length_take]; omega, w2, fun i hi => absurd hi (by omega), fun i _ hi => by rw [k2] at hi ⊢; rw [List.length_take] at hi; exact nth_take (by omega)⟩
      | succ j ihj =>
        intro hj
        obtain ⟨u, s, t, hl, hw, hc, hr⟩ := ihj (by omega)
        have hju : j < (kidsOf u).length := by omega
        obtain ⟨z, sz, cz, wz⟩ := ih (good_nth ha (i := j) (by omega)) (good_nth hb (i := j) (by omega))
        obtain ⟨u', s', t', k'⟩ := sz.kid (P := fun x => Wi (n + 1) x a) (y := u) (i := j) hju (hr j (Nat.le_refl _) hju) (fun z' q => hw.set q)
        rw [cutJ_succ, List.nil_append, cuts_pre]
        have hlen : (kidsOf u').length = (kidsOf u).length := by rw [k', List.length_set]
        refine ⟨u', s.app s', by rw [str_tag t', t], by rw [hlen, hl], ?_, fun i hi => ?_, fun i h1 h2 => ?_⟩
        · refine ⟨by rw [str_tag t', t]; exact good_name hb, by rw [hlen]; exact hw.2.1, fun i hi => ?_⟩
          rw [hlen] at hi
          rw [k']
          by_cases e : i = j
          · subst e; rw [nth_set _ _ _ hju]; exact wz
          · rw [nth_set_ne e]; exact hw.2.2 i hi
        · rw [k']
          by_cases e : i = j
          · subst e; rw [nth_set _ _ _ hju]; exact cz
          · rw [nth_set_ne e]; exact hc i (by omega)
        · rw [k', nth_set_ne (by omega)]; exact hr i (by omega) (by rw [← hlen]; exact h2)
    obtain ⟨u, s3, t3, l3, w3, c3, _⟩ := key _ (Nat.le_refl _)
    exact ⟨u, (s1.app s2).app s3, ⟨t3, l3, fun i hi => c3 i (by omega)⟩, w3⟩
theorem grow_lead : ∀ (n : Nat) {a b u : TD}, Good n b → cntTree n b ≤ 30 → CutOf n a b u → ∃ v, Steps (fun x => Wi n x b) (growD n a b []) u v ∧ Sim n v b ∧ Wi n v b := by
  intro n
  induction n with
  | zero => intro a b u h _ _; obtain ⟨k, e⟩ := good_pos h; omega
  | succ n ih =>
    intro a b u hb hcb hu
    have hwu := cut_wi (n + 1) hu hb
    have hkid : ∀ i, i < (kidsOf b).length → cntTree n (nth (kidsOf b) i) ≤ 30 := fun i hi => by
      have h1 : 1 + cntL (cntTree n) (kidsOf b) ≤ 30 := hcb
      have h2 := cntL_erase (cnt := cntTree n) (kidsOf b) i hi
      omega
    have key : ∀ j, j ≤ (kidsOf b).length → ∃ y, Steps (fun x => Wi (n + 1) x b) (growJ (growD n) a b [] j) u y ∧ tagOf y = tagOf b ∧ (kidsOf y).length = max j (min (kidsOf a).length (kidsOf b).length) ∧ Wi (n + 1) y b ∧
        (∀ i, i < j → Sim n (nth (kidsOf y) i) (nth (kidsOf b) i)) ∧ (∀ i, j ≤ i → i < (kidsOf y).length → CutOf n (nth (kidsOf a) i) (nth (kidsOf b) i) (nth (kidsOf y) i)) := by
      intro j
      induction j with
      | zero => intro _; exact ⟨u, .nil u, hu.1, by rw [hu.2.1]; omega, hwu, fun i hi => absurd hi (by omega), fun i _ hi => hu.2.2 i hi⟩
      | succ j ihj =>
        intro hj
        obtain ⟨y, s, t, hl, hw, hc, hr⟩ := ihj (by omega)
        rw [growJ_succ, List.nil_append]
        by_cases hja : j < (kidsOf a).length
        · rw [if_pos hja]
          have hjy : j < (kidsOf y).length := by omega
          obtain ⟨z, sz, cz, wz⟩ := ih (good_nth hb (i := j) (by omega)) (hkid j (by omega)) (hr j (Nat.le_refl _) hjy)
          obtain ⟨y', s', t', k'⟩ := sz.kid (P := fun x => Wi (n + 1) x b) (y := y) (i := j) hjy rfl (fun z' q => hw.set q)
          rw [grow_pre]
          have hlen : (kidsOf y').length = (kidsOf y).length := by rw [k', List.length_set]
          refine ⟨y', s.app s', by rw [str_tag t', t], by rw [hlen, hl]; omega, ?_, fun i hi => ?_, fun i h1 h2 => ?_⟩
          · refine ⟨by rw [str_tag t', t]; exact good_name hb, by rw [hlen]; exact hw.2.1, fun i hi => ?_⟩
            rw [hlen] at hi
            rw [k']
            by_cases e : i = j
            · subst e; rw [nth_set _ _ _ hjy]; exact wz
            · rw [nth_set_ne e]; exact hw.2.2 i hi
          · rw [k']
            by_cases e : i = j
            · subst e; rw [nth_set _ _ _ hjy]; exact cz
            · rw [nth_set_ne e]; exact hc i (by omega)
          · rw [k', nth_set_ne (by omega)]; exact hr i (by omega) (by rw [← hlen]; exact h2)
        · rw [if_neg hja]
          have hly : (kidsOf y).length = j := by omega
          have hgj := good_nth hb (i := j) (by omega)
          have htb : treeB (nth (kidsOf b) j) = true := treeB_of hgj (hkid j (by omega))
          have hins : insK (kidsOf y) j (nth (kidsOf b) j) = kidsOf y ++ [nth (kidsOf b) j] := by
            unfold insK; rw [← hly, List.take_length, List.drop_length]
          have hnl : ∀ i, i < j → nth (kidsOf y ++ [nth (kidsOf b) j]) i = nth (kidsOf y) i := fun i hi => by simp [nth, List.getElem?_append_left (show i < (kidsOf y).length by omega)]
          have hnr : nth (kidsOf y ++ [nth (kidsOf b) j]) j = nth (kidsOf b) j := by
            have : (kidsOf y ++ [nth (kidsOf b) j])[j]? = some (nth (kidsOf b) j) := by rw [List.getElem?_append_right (by omega), hly]; simp
            unfold nth at this ⊢
            rw [List.getD_eq_getElem?_getD, this]; rfl
          have hwy : Wi (n + 1) (mkT (strT y) (kidsOf y ++ [nth (kidsOf b) j])) b := by
            refine ⟨hw.1, by rw [kids_mkT, List.length_append, List.length_singleton]; omega, fun i hi => ?_⟩
            rw [kids_mkT] at hi ⊢
            rw [List.length_append, List.length_singleton] at hi
            by_cases e : i = j
            · subst e; rw [hnr]; exact wi_refl n hgj
            · rw [hnl i (by omega)]; exact hw.2.2 i (by omega)
          refine ⟨mkT (strT y) (kidsOf y ++ [nth (kidsOf b) j]), s.app (Steps.one ?_ ?_ hwy), ?_, ?_, hwy, fun i hi => ?_, fun i h1 h2 => ?_⟩
          · simp [formB, insE, emS, htb]
          · show putD 1 _ _ [(j : Int)] y = _
            unfold putD
            rw [if_pos (by simp), if_pos (by omega), Int.toNat_natCast]
            show some (mkT (strT y) (insK (kidsOf y) j (nth (kidsOf b) j))) = _
            rw [hins]
          · rw [mkT_tag]; simp [strT, t]
          · rw [kids_mkT, List.length_append, List.length_singleton]; omega
          · rw [kids_mkT]
            by_cases e : i = j
            · subst e; rw [hnr]; exact sim_refl _ _
            · rw [hnl i (by omega)]; exact hc i (by omega)
          · rw [kids_mkT, List.length_append, List.length_singleton] at h2; omega
    obtain ⟨v, s3, t3, l3, w3, c3, _⟩ := key _ (Nat.le_refl _)
    have hl : (kidsOf v).length = (kidsOf b).length := by omega
    exact ⟨v, s3, ⟨t3, hl, fun i hi => c3 i (by omega)⟩, w3⟩
theorem steps_fold {Q : TD → Prop} (hq : ∀ y, Q y → treeB y = true) {l : List EditD} {d u : TD} (h : Steps Q l d u) : treeB d = true → foldE l d = some u := by
  induction h with
  | nil d => intro _; rfl
  | @cons e l d y u h1 h2 h3 _ ih =>
    intro hd
    show (match editedD d e with | some y => foldE l y | none => none) = some u
    have : editedD d e = some y := by unfold editedD; rw [if_pos ⟨hd, h1⟩, h2]; simp [hq y h3]
    rw [this]
    exact ih (hq y h3)
theorem good_of {n : Nat} {x : TD} (h : okB (szD n x 30) = true) : Good n x ∧ cntTree n x ≤ 30 := by
  cases e : szD n x 30 with
  | none => rw [e] at h; cases h
  | some m => exact ⟨⟨30, m, e⟩, by have h1 := szD_cntE _ _ _ _ e; have h2 := szD_range _ _ _ _ e; omega⟩
/-- the edits from a to b, made of a, make b -/
theorem diff_lead {n : Nat} {a b : TD} (ha : okB (szD n a 30) = true) (hb : okB (szD n b 30) = true) : ∃ v, foldE (cutsD n a b [] ++ growD n a b []) a = some v ∧ Sim n v b := by
  obtain ⟨ga, ca⟩ := good_of ha
  obtain ⟨gb, cb⟩ := good_of hb
  obtain ⟨u, s1, c1, w1⟩ := cuts_lead n ga gb
  obtain ⟨v, s2, c2, _⟩ := grow_lead n gb cb c1
  refine ⟨v, ?_, c2⟩
  have h1 : Steps (fun y => treeB y = true) (cutsD n a b []) a u := s1.mono fun y q => treeB_of (wi_good n q ga).1 (by have := (wi_good n q ga).2; omega)
  have h2 : Steps (fun y => treeB y = true) (growD n a b []) u v := s2.mono fun y q => treeB_of (wi_good n q gb).1 (by have := (wi_good n q gb).2; omega)
  exact steps_fold (fun _ q => q) (h1.app h2) (treeB_of ga ca)
theorem cuts_self : ∀ (n : Nat) (a : TD) (p : List Int), cutsD n a a p = [] := by
  intro n
  induction n with
  | zero => intro a p; rfl
  | succ n ih =>
    intro a p
    show renJ a a p ++ delJ p (kidsOf a).length ((kidsOf a).length - (kidsOf a).length) ++ cutJ (cutsD n) a a p (min (kidsOf a).length (kidsOf a).length) = []
    rw [Nat.sub_self, delJ_zero]
    have e1 : renJ a a p = [] := by unfold renJ; rw [if_pos rfl]
    have e2 : ∀ j, cutJ (cutsD n) a a p j = [] := fun j => by
      induction j with
      | zero => rfl
      | succ j ihj => rw [cutJ_succ, ihj, ih]; rfl
    rw [e1, e2]; rfl
theorem grow_self : ∀ (n : Nat) (a : TD) (p : List Int), growD n a a p = [] := by
  intro n
  induction n with
  | zero => intro a p; rfl
  | succ n ih =>
    intro a p
    have e2 : ∀ j, j ≤ (kidsOf a).length → growJ (growD n) a a p j = [] := fun j => by
      induction j with
      | zero => intro _; rfl
      | succ j ihj => intro hj; rw [growJ_succ, ihj (by omega), if_pos (by omega), ih]; rfl
    exact e2 _ (Nat.le_refl _)
end Go.Proofs.Ytndffcogddefiaa
