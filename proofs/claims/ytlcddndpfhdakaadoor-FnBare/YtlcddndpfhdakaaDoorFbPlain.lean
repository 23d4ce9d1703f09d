/- Bare marks are right trees; a right tree, read as a mark, is bare just that tree: plain facts. -/
import Derived.Test.YtlcddndpfhdakaaDoorBareTop
import Derived.Test.YtlcddndpfhdakaaDoorTextWalks
import Derived.Test.YtlcddndpfhdakaaDoorRmTop
namespace Go.Proofs.YtlcddndpfhdakaaDoor
open Go.RowKit
theorem szF_bare {f : MarkD → Int → Option Int} {g : TD → Int → Option Int} {h : MarkD → TD} (hf : ∀ k r q, f k r = some q → 1 ≤ q ∧ (isT k = false → ∀ r', r ≤ r' → ∃ q', q' ≤ q ∧ g (h k) r' = some q')) : ∀ (ks : List MarkD) (p : Bool) (room size m : Int), mzF f p ks room size = some m → ∀ room' size', room ≤ room' → size' ≤ size → ∃ q, q ≤ m ∧ szF g ((ks.filter fun k => !isT k).map h) room' size' = some q := by
  intro ks
  induction ks with
  | nil => intro p room size m e room' size' h1 h2; simp [mzF] at e; exact ⟨size', by omega, rfl⟩
  | cons k ks ih =>
    intro p room size m e room' size' h1 h2
    unfold mzF at e
    split at e
    · cases e
    · rename_i q hq
      split at e
      · cases e
      · obtain ⟨q1, q2⟩ := hf _ _ _ hq
        cases hT : isT k
        · obtain ⟨q', h3, h4⟩ := q2 hT (room' - size') (by omega)
          rw [List.filter_cons_of_pos (by simp [hT]), List.map_cons]
          unfold szF
          rw [h4]
          exact ih _ _ _ _ e _ _ h1 (by omega)
        · rw [List.filter_cons_of_neg (by simp [hT])]
          exact ih _ _ _ _ e _ _ h1 (by omega)
theorem bareD_tag (n : Nat) (x : MarkD) : tagOf (bareD (n + 1) x) = x.vTag.data.toList := rfl
/-- a right mark, bare, is a right tree -/
theorem bare_right : ∀ (n : Nat) (x : MarkD) (room m : Int), mzD n x room = some m → isT x = false → ∀ room', room ≤ room' → ∃ q, q ≤ m ∧ szD n (bareD n x) room' = some q := by
  intro n
  induction n with
  | zero => intro x room m h; simp [mzD] at h
  | succ n ih =>
    intro x room m h hT room' hr
    unfold mzD at h
    split at h
    · cases h
    · rename_i hc
      have hc1 : 1 ≤ room := by omega
      have hs : selfB x = true := by cases e : selfB x with | true => rfl | false => exact absurd (Or.inr e) hc
      have hn : nmB x.vTag = true := by
        unfold selfB at hs
        rw [hT] at hs
        simp only [Bool.false_eq_true, if_false, tagB, Bool.and_eq_true] at hs
        exact hs.1.1.1
      have hk := szF_bare (f := mzD n) (g := szD n) (h := bareD n) (fun k r q hq => ⟨(mzD_range _ _ _ _ hq).1, fun hTk r' hr' => ih k r q hq hTk r' hr'⟩) _ _ _ _ _ h room' 1 hr (Int.le_refl _)
      obtain ⟨q, h1, h2⟩ := hk
      refine ⟨q, h1, ?_⟩
      unfold szD
      rw [if_neg (by rw [bareD_tag]; intro h; rcases h with h | h; · omega
                     · have : nameB x.vTag.data.toList = true := hn
                       rw [this] at h; cases h)]
      exact h2
theorem bareR_right {n : Nat} {x : MarkD} (h : (bareR n x).2 = true) : okB (szD n (bareR n x).1 30) = true ∧ strT (bareR n x).1 = x.vTag := by
  by_cases hq : okM (mzD n x 30) = true ∧ isT x = false
  · rw [bareR_yes hq]
    cases hm : mzD n x 30 with
    | none => rw [hm] at hq; cases hq.1
    | some m =>
      obtain ⟨q, _, e⟩ := bare_right n x 30 m hm hq.2 30 (Int.le_refl _)
      refine ⟨by show okB (szD n (bareD n x) 30) = true; rw [e]; rfl, ?_⟩
      cases n with
      | zero => simp [mzD] at hm
      | succ n => exact mkT_str _ _
  · rw [bareR_no hq] at h; cases h
/-! ### a tree as a mark -/
def markOfT : Nat → TD → MarkD
  | 0, _ => MarkD.mk ⟨#[]⟩ ⟨#[]⟩ [] []
  | n + 1, d => MarkD.mk (strT d) ⟨#[]⟩ [] ((kidsOf d).map (markOfT n))
theorem strT_data (d : TD) : (strT d).data.toList = tagOf d := by simp [strT]
theorem name_size {s : ByteArray} (h : nameB s.data.toList = true) : ¬ s.size = 0 := by
  intro e
  have := (name_len h).1
  rw [show s.data.toList.length = s.size by simp] at this
  omega
theorem markOfT_isT {n : Nat} {d : TD} {room m : Int} (h : szD n d room = some m) : isT (markOfT n d) = false := by
  cases n with
  | zero => simp [szD] at h
  | succ n =>
    unfold szD at h
    split at h
    · cases h
    · rename_i hc
      have hn : nameB (strT d).data.toList = true := by rw [strT_data]; cases e : nameB (tagOf d) with | true => rfl | false => exact absurd (Or.inr e) hc
      unfold isT
      rw [show (markOfT (n + 1) d).vTag = strT d from MarkD.mk_tag _ _ _ _]
      exact decide_eq_false (name_size hn)
theorem mzF_tree {g : MarkD → Int → Option Int} {f : TD → Int → Option Int} {h : TD → MarkD} (hf : ∀ k r q, f k r = some q → g (h k) r = some q ∧ isT (h k) = false) : ∀ (ks : List TD) (room size m : Int), szF f ks room size = some m → ∀ p, mzF g p (ks.map h) room size = some m := by
  intro ks
  induction ks with
  | nil => intro room size m e p; simpa [szF, mzF] using e
  | cons k ks ih =>
    intro room size m e p
    unfold szF at e
    split at e
    · cases e
    · rename_i q hq
      obtain ⟨h1, h2⟩ := hf _ _ _ hq
      rw [List.map_cons]
      unfold mzF
      rw [h1, h2]
      simp only [Bool.and_false, Bool.false_eq_true, if_false]
      exact ih _ _ _ e _
theorem markOfT_size : ∀ (n : Nat) (d : TD) (room m : Int), szD n d room = some m → mzD n (markOfT n d) room = some m := by
  intro n
  induction n with
  | zero => intro d room m h; simp [szD] at h
  | succ n ih =>
    intro d room m h
    have hT := markOfT_isT h
    unfold szD at h
    split at h
    · cases h
    · rename_i hc
      have hn : nameB (strT d).data.toList = true := by rw [strT_data]; cases e : nameB (tagOf d) with | true => rfl | false => exact absurd (Or.inr e) hc
      have hs : selfB (markOfT (n + 1) d) = true := by
        unfold selfB
        rw [hT]
        simp only [Bool.false_eq_true, if_false]
        unfold tagB
        rw [show (markOfT (n + 1) d).vTag = strT d from MarkD.mk_tag _ _ _ _, show (markOfT (n + 1) d).vText = ⟨#[]⟩ from MarkD.mk_text _ _ _ _, show (markOfT (n + 1) d).vAttrs = [] from MarkD.mk_attrs _ _ _ _]
        rw [show nmB (strT d) = true from hn]
        rfl
      unfold mzD
      rw [if_neg (by rw [hs]; intro h; rcases h with h | h; · exact hc (Or.inl h)
                     · cases h)]
      rw [show (markOfT (n + 1) d).vKids = (kidsOf d).map (markOfT n) from MarkD.mk_kids _ _ _ _]
      exact mzF_tree (fun k r q hq => ⟨ih k r q hq, markOfT_isT hq⟩) _ _ _ _ h _
theorem szF_all {f : TD → Int → Option Int} : ∀ (ks : List TD) (room size m : Int), szF f ks room size = some m → ∀ k ∈ ks, ∃ r q, f k r = some q := by
  intro ks
  induction ks with
  | nil => intro room size m _ k hk; cases hk
  | cons k ks ih =>
    intro room size m h k' hk
    unfold szF at h
    split at h
    · cases h
    · rename_i q hq
      rcases List.mem_cons.1 hk with rfl | hk
      · exact ⟨_, _, hq⟩
      · exact ih _ _ _ h k' hk
theorem szD_kids {n : Nat} {d : TD} {room m : Int} (h : szD (n + 1) d room = some m) : ∀ k ∈ kidsOf d, ∃ r q, szD n k r = some q := by
  unfold szD at h
  split at h
  · cases h
  · exact szF_all _ _ _ _ h
theorem catK_textK {g : MarkD → List UInt8} {f : TD → List UInt8} {h : TD → MarkD} : ∀ ks : List TD, (∀ k ∈ ks, g (h k) = f k) → catK g (ks.map h) = textK f ks := by
  intro ks
  induction ks with
  | nil => intro _; rfl
  | cons k ks ih => intro q; simp only [List.map_cons, catK, textK]; rw [q k (by simp), ih (fun k hk => q k (by simp [hk]))]
theorem markOfT_text : ∀ (n : Nat) (d : TD) (room m : Int), szD n d room = some m → mtD n (markOfT n d) = textD n d := by
  intro n
  induction n with
  | zero => intro d room m h; rfl
  | succ n ih =>
    intro d room m h
    rw [mtD_tag (markOfT_isT h)]
    simp only [textD, headM, footM, headT, footT]
    rw [show (markOfT (n + 1) d).vTag = strT d from MarkD.mk_tag _ _ _ _, show (markOfT (n + 1) d).vAttrs = [] from MarkD.mk_attrs _ _ _ _, show (markOfT (n + 1) d).vKids = (kidsOf d).map (markOfT n) from MarkD.mk_kids _ _ _ _, strT_data]
    rw [catK_textK (f := textD n) (kidsOf d) (fun k hk => by obtain ⟨r, q, hq⟩ := szD_kids h k hk; exact ih k r q hq)]
    simp [catK]
theorem markOfT_can : ∀ (n : Nat) (d : TD) (room m : Int), szD n d room = some m → CanM n (markOfT n d) := by
  intro n
  induction n with
  | zero => intro d room m h; simp [szD] at h
  | succ n ih =>
    intro d room m h
    refine canM_mk fun k hk => ?_
    obtain ⟨k0, h0, rfl⟩ := List.mem_map.1 hk
    obtain ⟨r, q, hq⟩ := szD_kids h k0 h0
    exact ih k0 r q hq
/-- bare, it is that tree, laid out anew -/
def canT : Nat → TD → TD
  | 0, d => d
  | n + 1, d => mkT (strT d) ((kidsOf d).map (canT n))
theorem bare_tree : ∀ (n m : Nat) (d : TD) (room q : Int), n ≤ m → szD n d room = some q → bareD m (markOfT n d) = canT n d := by
  intro n
  induction n with
  | zero => intro m d room q _ h; simp [szD] at h
  | succ n ih =>
    intro m d room q hm h
    obtain ⟨m, rfl⟩ : ∃ k, m = k + 1 := ⟨m - 1, by omega⟩
    simp only [bareD, canT]
    rw [show (markOfT (n + 1) d).vTag = strT d from MarkD.mk_tag _ _ _ _, show (markOfT (n + 1) d).vKids = (kidsOf d).map (markOfT n) from MarkD.mk_kids _ _ _ _]
    congr 1
    have hks := szD_kids h
    generalize kidsOf d = ks at hks
    induction ks with
    | nil => rfl
    | cons k ks ik =>
      obtain ⟨r, q, hq⟩ := hks k (by simp)
      rw [List.map_cons, List.filter_cons_of_pos (by rw [markOfT_isT hq]; rfl), List.map_cons, List.map_cons, ih m k r q (by omega) hq, ik (fun k hk => hks k (by simp [hk]))]
theorem canT_tag (n : Nat) (d : TD) : tagOf (canT n d) = tagOf d := by
  cases n with
  | zero => rfl
  | succ n => simp only [canT]; rw [mkT_tag, strT_data]
theorem szF_mapC {f g : TD → Int → Option Int} {h : TD → TD} : ∀ (ks : List TD) (room size m : Int), (∀ k r q, f k r = some q → g (h k) r = some q) → szF f ks room size = some m → szF g (ks.map h) room size = some m := by
  intro ks
  induction ks with
  | nil => intro room size m _ e; exact e
  | cons k ks ih =>
    intro room size m hf e
    unfold szF at e
    split at e
    · cases e
    · rename_i q hq
      rw [List.map_cons]
      unfold szF
      rw [hf _ _ _ hq]
      exact ih _ _ _ hf e
theorem canT_size : ∀ (n m : Nat) (d : TD) (room q : Int), n ≤ m → szD n d room = some q → szD m (canT n d) room = some q := by
  intro n
  induction n with
  | zero => intro m d room q _ h; simp [szD] at h
  | succ n ih =>
    intro m d room q hm h
    obtain ⟨m, rfl⟩ : ∃ k, m = k + 1 := ⟨m - 1, by omega⟩
    unfold szD at h ⊢
    rw [canT_tag]
    split at h
    · cases h
    · rename_i hc
      rw [if_neg hc]
      exact szF_mapC _ _ _ _ (fun k r q hq => ih m k r q (by omega) hq) h
theorem canT_text : ∀ (n m : Nat) (d : TD) (room q : Int), n ≤ m → szD n d room = some q → textD m (canT n d) = textD n d := by
  intro n
  induction n with
  | zero => intro m d room q _ h; simp [szD] at h
  | succ n ih =>
    intro m d room q hm h
    obtain ⟨m, rfl⟩ : ∃ k, m = k + 1 := ⟨m - 1, by omega⟩
    simp only [textD, headT, footT]
    rw [canT_tag]
    congr 2
    simp only [canT, mkT_kids]
    have hks := szD_kids h
    generalize kidsOf d = ks at hks
    induction ks with
    | nil => rfl
    | cons k ks ik =>
      obtain ⟨r, q, hq⟩ := hks k (by simp)
      simp only [List.map_cons, textK]
      rw [ih m k r q (by omega) hq, ik (fun k hk => hks k (by simp [hk]))]
theorem mzF_upT {f g : MarkD → Int → Option Int} (h : ∀ x room m, f x room = some m → g x room = some m) : ∀ (ks : List MarkD) (p : Bool) (room size m : Int), mzF f p ks room size = some m → mzF g p ks room size = some m := by
  intro ks
  induction ks with
  | nil => intro p room size m h; exact h
  | cons k ks ih =>
    intro p room size m h2
    unfold mzF at h2 ⊢
    split at h2
    · cases h2
    · rename_i q hq
      rw [h _ _ _ hq]
      simp only at h2 ⊢
      split at h2
      · cases h2
      · rename_i hp
        rw [if_neg hp]
        exact ih _ _ _ _ h2
theorem mzD_upT : ∀ (n : Nat) (x : MarkD) (room m : Int), mzD n x room = some m → mzD (n + 1) x room = some m := by
  intro n
  induction n with
  | zero => intro x room m h; simp [mzD] at h
  | succ n ih =>
    intro x room m h
    rw [mzD] at h ⊢
    split at h
    · cases h
    · rename_i hc
      rw [if_neg hc]
      exact mzF_upT ih _ _ _ _ _ h
theorem mzD_monoT {n m : Nat} (h : n ≤ m) {x : MarkD} {room q : Int} (hq : mzD n x room = some q) : mzD m x room = some q := by
  induction h with
  | refl => exact hq
  | step _ ih => exact mzD_upT _ _ _ _ ih
theorem textR_few {n : Nat} {x : TD} : (textR n x).size ≤ 510 := by
  cases hq : szD n x 30 with
  | none => rw [textR_no (by rw [hq]; rfl)]; decide
  | some m =>
    rw [textR_yes (by rw [hq]; rfl)]
    have h1 := szD_text _ _ _ _ hq
    have h2 := szD_range _ _ _ _ hq
    show (textD n x).toArray.size ≤ _
    rw [List.size_toArray]
    omega
/-- what is read of a right tree's text: that tree as a mark; its text; and bare it has that text -/
theorem readsM_tree {n : Nat} {d : TD} {u : MarkD} {b : Bool} (hn : n ≤ 31) (hd : okB (szD n d 30) = true) (h : ReadsM (textR n d) u b) : b = true ∧ mtR 31 u = textR n d ∧ (bareR 31 u).2 = true ∧ textR 31 (bareR 31 u).1 = textR n d := by
  cases hq : szD n d 30 with
  | none => rw [hq] at hd; cases hd
  | some m =>
    have e : textR n d = ⟨(textD n d).toArray⟩ := textR_yes hd
    have hsz : mzD 31 (markOfT n d) 30 = some m := mzD_monoT hn (markOfT_size n d 30 m hq)
    have hok : okM (mzD 31 (markOfT n d) 30) = true := by rw [hsz]; rfl
    have hc : CanM 31 (markOfT n d) := CanM.mono hn (markOfT_can n d 30 m hq)
    have hmt : mtD 31 (markOfT n d) = textD n d := by rw [mtD_mono hn (markOfT_can n d 30 m hq)]; exact markOfT_text n d 30 m hq
    have hl : mtD 31 (markOfT n d) = (textR n d).data.toList := by rw [hmt, e]
    have hbr : bareR 31 (markOfT n d) = (canT n d, true) := by rw [bareR_yes ⟨hok, markOfT_isT hq⟩, bare_tree n 31 d 30 m hn hq]
    rcases h with ⟨rfl, _, _, _, _, h5⟩ | ⟨_, _, h2⟩
    · obtain rfl := h5 _ hc hok hl
      refine ⟨rfl, ?_, by rw [hbr], ?_⟩
      · rw [mtR_yes hok, hmt, e]
      · rw [hbr]
        show textR 31 (canT n d) = _
        rw [textR_yes (by rw [canT_size n 31 d 30 m hn hq]; rfl), canT_text n 31 d 30 m hn hq, e]
    · exact (h2 (Nat.le_trans textR_few (by omega)) _ hc hok hl).elim
end Go.Proofs.YtlcddndpfhdakaaDoor
