/- What is undone is as it was: plain. -/
import Derived.Test.YtndffcogddefiaaEdSizes
import Derived.Test.YtndffcogddefiaaTextWalks
import Derived.Test.YtndffcogddefiaaEdUnd
namespace Go.Proofs.Ytndffcogddefiaa
open Go.RowKit
/-- trees of the same tags, so deep -/
def Sim : Nat → TD → TD → Prop
  | 0, _, _ => True
  | n + 1, a, b => tagOf a = tagOf b ∧ (kidsOf a).length = (kidsOf b).length ∧ ∀ i, i < (kidsOf a).length → Sim n (nth (kidsOf a) i) (nth (kidsOf b) i)
theorem sim_refl : ∀ (n : Nat) (a : TD), Sim n a a := by
  intro n
  induction n with
  | zero => intro a; trivial
  | succ n ih => intro a; exact ⟨rfl, rfl, fun i _ => ih _⟩
theorem szF_sim {f g : TD → Int → Option Int} : ∀ (ds es : List TD) (room size : Int), ds.length = es.length → (∀ i, i < ds.length → ∀ r, f (nth ds i) r = g (nth es i) r) → szF f ds room size = szF g es room size := by
  intro ds
  induction ds with
  | nil => intro es room size hl _; cases es with | nil => rfl | cons x es => cases hl
  | cons d ds ih =>
    intro es room size hl h
    cases es with
    | nil => cases hl
    | cons x es =>
      have e : f d (room - size) = g x (room - size) := h 0 (by simp) _
      unfold szF
      rw [← e]
      cases f d (room - size) with
      | none => rfl
      | some q => exact ih es room _ (by simpa using hl) (fun i hi r => h (i + 1) (by simp; omega) r)
theorem sim_size : ∀ (n : Nat) {a b : TD}, Sim n a b → ∀ r, szD n a r = szD n b r := by
  intro n
  induction n with
  | zero => intro a b _ r; rfl
  | succ n ih =>
    intro a b h r
    obtain ⟨h1, h2, h3⟩ := h
    unfold szD
    rw [h1]
    split
    · rfl
    · exact szF_sim _ _ _ _ h2 (fun i hi r => ih (h3 i hi) r)
theorem textK_sim {f g : TD → List UInt8} : ∀ (ds es : List TD), ds.length = es.length → (∀ i, i < ds.length → f (nth ds i) = g (nth es i)) → textK f ds = textK g es := by
  intro ds
  induction ds with
  | nil => intro es hl _; cases es with | nil => rfl | cons x es => cases hl
  | cons d ds ih =>
    intro es hl h
    cases es with
    | nil => cases hl
    | cons x es =>
      have e : f d = g x := h 0 (by simp)
      show f d ++ textK f ds = g x ++ textK g es
      rw [e, ih es (by simpa using hl) (fun i hi => h (i + 1) (by simp; omega))]
theorem sim_text : ∀ (n : Nat) {a b : TD}, Sim n a b → textD n a = textD n b := by
  intro n
  induction n with
  | zero => intro a b _; rfl
  | succ n ih =>
    intro a b h
    obtain ⟨h1, h2, h3⟩ := h
    show headT a ++ textK (textD n) (kidsOf a) ++ footT a = headT b ++ textK (textD n) (kidsOf b) ++ footT b
    rw [textK_sim _ _ h2 (fun i hi => ih (h3 i hi))]
    unfold headT footT
    rw [h1]
theorem sim_textR {n : Nat} {a b : TD} (h : Sim n a b) : textR n a = textR n b := by
  unfold textR
  rw [sim_size n h, sim_text n h]
theorem tag_mkT (d : TD) (ks : List TD) : tagOf (mkT (strT d) ks) = tagOf d := by
  show (strT d).data.toList = tagOf d
  simp [strT]
theorem setP_same : ∀ (q : List Int) {d : TD}, okP d q = true → ∀ n, Sim n (setP d q (mkT (strT (endP d q)) (kidsOf (endP d q)))) d := by
  intro q
  induction q with
  | nil =>
    intro d _ n
    cases n with
    | zero => trivial
    | succ n => exact ⟨tag_mkT _ _, rfl, fun i _ => sim_refl _ _⟩
  | cons p ps ih =>
    intro d hok n
    have hok' : inB d p = true ∧ okP (kidP d p) ps = true := by simpa [okP] using hok
    cases n with
    | zero => trivial
    | succ n =>
      have hk := ih hok'.2 n
      refine ⟨tag_mkT _ _, ?_, fun i hi => ?_⟩
      · show ((kidsOf d).set p.toNat _).length = _
        rw [List.length_set]
      · show Sim n (nth ((kidsOf d).set p.toNat (setP (kidP d p) ps (mkT (strT (endP (kidP d p) ps)) (kidsOf (endP (kidP d p) ps))))) i) (nth (kidsOf d) i)
        by_cases e : p.toNat = i
        · subst e
          rw [nth_set _ _ _ (inB_lt hok'.1)]
          exact hk
        · have : nth ((kidsOf d).set p.toNat (setP (kidP d p) ps (mkT (strT (endP (kidP d p) ps)) (kidsOf (endP (kidP d p) ps))))) i = nth (kidsOf d) i := by
            unfold nth
            simp [List.getD, e]
          rw [this]
          exact sim_refl _ _
theorem setP_setP : ∀ (q : List Int) {d y z : TD}, okP d q = true → setP (setP d q y) q z = setP d q z := by
  intro q
  induction q with
  | nil => intro d y z _; rfl
  | cons p ps ih =>
    intro d y z hok
    have hok' : inB d p = true ∧ okP (kidP d p) ps = true := by simpa [okP] using hok
    have hk : kidP (setP d (p :: ps) y) p = setP (kidP d p) ps y := nth_set _ _ _ (inB_lt hok'.1)
    show mkT (strT (mkT (strT d) ((kidsOf d).set p.toNat (setP (kidP d p) ps y)))) (((kidsOf d).set p.toNat (setP (kidP d p) ps y)).set p.toNat (setP (kidP (setP d (p :: ps) y) p) ps z)) = mkT (strT d) ((kidsOf d).set p.toNat (setP (kidP d p) ps z))
    rw [hk, ih hok'.2, strT_mkT, List.set_set]
theorem ins_erase (ks : List TD) (i : Nat) (z : TD) (h : i ≤ ks.length) : (insK ks i z).eraseIdx i = ks := by
  unfold insK
  rw [List.eraseIdx_append_of_length_le (by rw [List.length_take]; omega)]
  have e : i - (ks.take i).length = 0 := by rw [List.length_take]; omega
  rw [e]
  simp
theorem nth_getB {xs : List TD} {i : Nat} (h : i < xs.length) : nth xs i = xs[i] := by simp [nth, List.getD, List.getElem?_eq_getElem h]
theorem erase_ins (ks : List TD) (i : Nat) (h : i < ks.length) : insK (ks.eraseIdx i) i (nth ks i) = ks := by
  unfold insK
  rw [nth_getB h, List.eraseIdx_eq_take_drop_succ]
  have hl : (ks.take i).length = i := by rw [List.length_take]; omega
  rw [List.take_append_of_le_length (by omega), List.take_take, Nat.min_self, List.drop_append_of_le_length (by omega), List.drop_of_length_le (l := ks.take i) (by omega), List.nil_append]
  rw [← List.drop_eq_getElem_cons h, List.take_append_drop]
theorem treeB_sim {a b : TD} (h : Sim 31 a b) : treeB a = treeB b := by unfold treeB; rw [sim_size 31 h]
theorem emT_zero : emT zeroT = true := by decide
theorem emS_zero : emS ⟨#[]⟩ = true := by decide
/-- undone, a tree is as it was -/
theorem undo_plain {d u : TD} {e : EditD} (h : editedD d e = some u) : ∃ v, editedD u (backD d e) = some v ∧ ∀ n, Sim n v d := by
  unfold editedD at h
  by_cases hdf : treeB d = true ∧ formB e = true
  · rw [if_pos hdf] at h
    obtain ⟨hd, hf⟩ := hdf
    cases hp : putD e.vKind e.vTag e.vTree e.vPath d with
    | none => rw [hp] at h; cases h
    | some x =>
      rw [hp] at h
      by_cases hx : treeB x = true
      · have h' : x = u := by simpa [hx] using h
        subst h'
        have fin : ∀ (b : EditD) (q : List Int) (y : TD), okP d q = true → x = setP d q y → formB b = true → putD b.vKind b.vTag b.vTree b.vPath x = some (setP x q (mkT (strT (endP d q)) (kidsOf (endP d q)))) → ∃ v, editedD x b = some v ∧ ∀ n, Sim n v d := by
          intro b q y hq hxy hfb hpb
          have e1 : setP x q (mkT (strT (endP d q)) (kidsOf (endP d q))) = setP d q (mkT (strT (endP d q)) (kidsOf (endP d q))) := by rw [hxy, setP_setP q hq]
          have hs := setP_same q hq
          have ht : treeB (setP d q (mkT (strT (endP d q)) (kidsOf (endP d q)))) = true := by rw [treeB_sim (hs 31)]; exact hd
          refine ⟨setP d q (mkT (strT (endP d q)) (kidsOf (endP d q))), ?_, hs⟩
          unfold editedD
          rw [if_pos ⟨hx, hfb⟩, hpb, e1]
          simp [ht]
        unfold formB at hf
        by_cases k1 : e.vKind = 1
        · rw [if_pos k1] at hf
          simp only [Bool.and_eq_true, decide_eq_true_eq] at hf
          obtain ⟨⟨_, hlen⟩, htr⟩ := hf
          obtain ⟨q, p, hqp⟩ : ∃ q p, e.vPath = q ++ [p] := ⟨_, _, (List.dropLast_concat_getLast (List.ne_nil_of_length_pos hlen)).symm⟩
          have hb : backD d e = ⟨2, q ++ [p], ⟨#[]⟩, zeroT⟩ := by unfold backD; rw [if_pos k1, hqp]
          rw [k1, hqp, putD_insert] at hp
          by_cases hc : okP d q = true ∧ 0 ≤ p ∧ p ≤ ((kidsOf (endP d q)).length : Int)
          · rw [if_pos hc] at hp
            injection hp with hp
            obtain ⟨o1, o2⟩ := set_ok q (d := d) (y := mkT (strT (endP d q)) (insK (kidsOf (endP d q)) p.toNat e.vTree)) [p] hc.1
            obtain ⟨_, o4⟩ := set_ok q (d := d) (y := mkT (strT (endP d q)) (insK (kidsOf (endP d q)) p.toNat e.vTree)) [] hc.1
            rw [hp] at o1 o2 o4
            rw [List.append_nil] at o4
            have o4' : endP x q = mkT (strT (endP d q)) (insK (kidsOf (endP d q)) p.toNat e.vTree) := o4
            have hin : inB (mkT (strT (endP d q)) (insK (kidsOf (endP d q)) p.toNat e.vTree)) p = true := by
              simp only [inB, Bool.and_eq_true, decide_eq_true_eq]
              rw [kids_mkT]
              unfold insK
              simp
              omega
            have ok1 : okP x (q ++ [p]) = true := by rw [o1]; simp [okP, hin]
            rw [hb]
            refine fin _ q _ hc.1 hp.symm ?_ ?_
            · unfold formB
              rw [if_neg (show ¬ ((2 : Int) = 1) by decide), if_pos rfl, emS_zero, emT_zero]
              simp
            · show putD 2 _ _ (q ++ [p]) x = _
              rw [putD_delete, if_pos ok1, o4', strT_mkT, kids_mkT, ins_erase _ _ _ (by omega)]
          · rw [if_neg hc] at hp; cases hp
        · rw [if_neg k1] at hf
          by_cases k2 : e.vKind = 2
          · rw [if_pos k2] at hf
            simp only [Bool.and_eq_true, decide_eq_true_eq] at hf
            obtain ⟨⟨_, hlen⟩, _⟩ := hf
            obtain ⟨q, p, hqp⟩ : ∃ q p, e.vPath = q ++ [p] := ⟨_, _, (List.dropLast_concat_getLast (List.ne_nil_of_length_pos hlen)).symm⟩
            have hb : backD d e = ⟨1, q ++ [p], ⟨#[]⟩, endP d (q ++ [p])⟩ := by unfold backD; rw [if_neg k1, if_pos k2, hqp]
            rw [k2, hqp, putD_delete] at hp
            by_cases hc : okP d (q ++ [p]) = true
            · rw [if_pos hc] at hp
              injection hp with hp
              obtain ⟨hq, hin⟩ := ok_snoc q hc
              have hlt := inB_lt hin
              obtain ⟨o3, o4⟩ := set_ok q (d := d) (y := mkT (strT (endP d q)) ((kidsOf (endP d q)).eraseIdx p.toNat)) [] hq
              rw [hp] at o3 o4
              rw [List.append_nil] at o3 o4
              have o3' : okP x q = true := o3
              have o4' : endP x q = mkT (strT (endP d q)) ((kidsOf (endP d q)).eraseIdx p.toNat) := o4
              have en : endP d (q ++ [p]) = nth (kidsOf (endP d q)) p.toNat := by unfold endP; rw [List.foldl_append]; rfl
              have ht : treeB (endP d (q ++ [p])) = true := ok_ends (q ++ [p]) hd hc
              have hp0 : 0 ≤ p := by
                have := hin
                simp only [inB, Bool.and_eq_true, decide_eq_true_eq] at this
                exact this.1
              rw [hb]
              refine fin _ q _ hq hp.symm ?_ ?_
              · unfold formB
                rw [if_pos rfl, emS_zero, ht]
                simp
              · show putD 1 _ _ (q ++ [p]) x = _
                rw [putD_insert, if_pos ⟨o3', hp0, by rw [o4', kids_mkT, List.length_eraseIdx_of_lt hlt]; omega⟩, o4', strT_mkT, kids_mkT, en, erase_ins _ _ hlt]
            · rw [if_neg hc] at hp; cases hp
          · rw [if_neg k2] at hf
            simp only [Bool.and_eq_true, decide_eq_true_eq] at hf
            obtain ⟨⟨k3, _⟩, _⟩ := hf
            have hb : backD d e = ⟨3, e.vPath, strT (endP d e.vPath), zeroT⟩ := by unfold backD; rw [if_neg k1, if_neg k2]
            rw [k3, putD_rename] at hp
            by_cases hc : okP d e.vPath = true
            · rw [if_pos hc] at hp
              injection hp with hp
              obtain ⟨o3, o4⟩ := set_ok e.vPath (d := d) (y := mkT e.vTag (kidsOf (endP d e.vPath))) [] hc
              rw [hp] at o3 o4
              rw [List.append_nil] at o3 o4
              have o3' : okP x e.vPath = true := o3
              have o4' : endP x e.vPath = mkT e.vTag (kidsOf (endP d e.vPath)) := o4
              have ht : treeB (endP d e.vPath) = true := ok_ends e.vPath hd hc
              have hn : nameB (strT (endP d e.vPath)).data.toList = true := by
                have e1 : (strT (endP d e.vPath)).data.toList = tagOf (endP d e.vPath) := by simp [strT]
                rw [e1]
                cases hnm : nameB (tagOf (endP d e.vPath))
                · unfold treeB at ht
                  rw [szD_no (Or.inr hnm)] at ht
                  cases ht
                · rfl
              rw [hb]
              refine fin _ e.vPath _ hc hp.symm ?_ ?_
              · unfold formB
                rw [if_neg (show ¬ ((3 : Int) = 1) by decide), if_neg (show ¬ ((3 : Int) = 2) by decide), emT_zero, hn]
                simp
              · show putD 3 _ _ e.vPath x = _
                rw [putD_rename, if_pos o3', o4', kids_mkT]
            · rw [if_neg hc] at hp; cases hp
      · simp [hx] at h
  · rw [if_neg hdf] at h; cases h
end Go.Proofs.Ytndffcogddefiaa
