/- Texts of marks as a reader meets them: plain facts. -/
import Derived.Test.YtlcddndpfhdakaaDoorMtPlain
import Derived.Test.YtlcddndpfhdakaaDoorUnLaws
import Derived.Test.YtlcddndpfhdakaaDoorRtSmall
namespace Go.Proofs.YtlcddndpfhdakaaDoor
open Go.RowKit
/-- as far as this byte -/
def upto (c : UInt8) (l : List UInt8) : List UInt8 := l.takeWhile fun d => d != c
theorem upto_of {c : UInt8} {a b : List UInt8} (ha : ∀ d ∈ a, d ≠ c) (hb : ∀ d r, b = d :: r → d = c) : upto c (a ++ b) = a := by
  induction a with
  | nil =>
    cases b with
    | nil => rfl
    | cons d r => have := hb d r rfl; simp [upto, this]
  | cons d a ih =>
    have h1 : (d != c) = true := by have := ha d (by simp); simpa using this
    have := ih (fun e he => ha e (List.mem_cons_of_mem _ he))
    simp only [upto, List.cons_append, List.takeWhile_cons, h1, if_true] at this ⊢
    rw [this]
theorem upto_split (c : UInt8) (l : List UInt8) : l = upto c l ++ l.drop (upto c l).length := by
  have h : l.take (upto c l).length = upto c l := (List.prefix_iff_eq_take.1 (List.takeWhile_prefix _)).symm
  conv => lhs; rw [← List.take_append_drop (upto c l).length l, h]
theorem upto_len (c : UInt8) (l : List UInt8) : (upto c l).length ≤ l.length := (List.takeWhile_prefix _).length_le
theorem esc_no {l : List UInt8} : ∀ d ∈ escL l, d ≠ 60 ∧ d ≠ 34 := by
  induction l with
  | nil => intro d hd; cases hd
  | cons c l ih =>
    intro d hd
    rcases List.mem_append.1 hd with h | h
    · unfold escB at h
      split at h
      · simp at h; rcases h with rfl | rfl | rfl | rfl | rfl <;> decide
      · split at h
        · simp at h; rcases h with rfl | rfl | rfl | rfl <;> decide
        · split at h
          · simp at h; rcases h with rfl | rfl | rfl | rfl <;> decide
          · split at h
            · simp at h; rcases h with rfl | rfl | rfl | rfl | rfl | rfl <;> decide
            · simp at h; subst h; exact ⟨by assumption, by assumption⟩
    · exact ih d h
/-- nothing, or a sign that opens -/
def Op60 (r : List UInt8) : Prop := ∀ d z, r = d :: z → d = 60
/-- an attribute is read, behind its blank -/
def rdAtt (l : List UInt8) : Option (AttrD × List UInt8) :=
  if nameB (lw l) = true then (if preP [61, 34] (l.drop (lw l).length) = true then
    (match unL (upto 34 (l.drop ((lw l).length + 2))) with
      | none => none
      | some t => if preP [34] (l.drop ((lw l).length + 2 + (upto 34 (l.drop ((lw l).length + 2))).length)) = true then some (⟨⟨(lw l).toArray⟩, ⟨t.toArray⟩⟩, l.drop ((lw l).length + 2 + (upto 34 (l.drop ((lw l).length + 2))).length + 1)) else none) else none) else none
theorem let61 : letB (((61 : UInt8).toNat : Nat) : Int) = false := by decide
theorem rdAtt_of {a : AttrD} (h : nmB a.vName = true) (r : List UInt8) {l : List UInt8} (e : 32 :: l = attT a ++ r) : rdAtt l = some (a, r) := by
  have e' : l = a.vName.data.toList ++ ([61, 34] ++ (escL a.vValue.data.toList ++ ([34] ++ r))) := by
    have : attT a ++ r = 32 :: (a.vName.data.toList ++ ([61, 34] ++ (escL a.vValue.data.toList ++ ([34] ++ r)))) := by simp [attT]
    rw [this] at e; injection e
  have hlw : lw l = a.vName.data.toList := by rw [e']; exact lw_of (name_lets h) (fun c z hz => by injection hz with hz _; rw [← hz]; exact let61)
  have h1 : l.drop (lw l).length = [61, 34] ++ (escL a.vValue.data.toList ++ ([34] ++ r)) := by rw [hlw, e']; simp
  have h2 : l.drop ((lw l).length + 2) = escL a.vValue.data.toList ++ ([34] ++ r) := by rw [← List.drop_drop, h1]; rfl
  have h3 : upto 34 (l.drop ((lw l).length + 2)) = escL a.vValue.data.toList := by rw [h2]; exact upto_of (fun d hd => (esc_no d hd).2) (fun d z hz => by injection hz with hz _; exact hz.symm)
  have h4 : l.drop ((lw l).length + 2 + (upto 34 (l.drop ((lw l).length + 2))).length) = [34] ++ r := by rw [← List.drop_drop, h3, h2]; simp
  have h5 : l.drop ((lw l).length + 2 + (upto 34 (l.drop ((lw l).length + 2))).length + 1) = r := by rw [← List.drop_drop, h4]; rfl
  unfold rdAtt
  rw [if_pos (by rw [hlw]; exact h), if_pos (by rw [h1]; exact preP_of (r := _) rfl), h3, unL_esc]
  simp only []
  rw [← h3, if_pos (by rw [h4]; exact preP_of (r := r) rfl), h5, hlw]
theorem drop_pre {p l r : List UInt8} (h : l = p ++ r) : l.drop p.length = r := by rw [h]; simp
theorem rdAtt_sound {l : List UInt8} {a : AttrD} {r : List UInt8} (h : rdAtt l = some (a, r)) : nmB a.vName = true ∧ 32 :: l = attT a ++ r ∧ r.length < l.length := by
  unfold rdAtt at h
  split at h
  · rename_i hn
    split at h
    · rename_i hp
      cases hu : unL (upto 34 (l.drop ((lw l).length + 2))) with
      | none => rw [hu] at h; cases h
      | some t =>
        rw [hu] at h
        simp only [] at h
        split at h
        · rename_i hq
          simp only [Option.some.injEq, Prod.mk.injEq] at h
          obtain ⟨rfl, rfl⟩ := h
          obtain ⟨z1, e1⟩ := preP_yes hp
          have hl : l = lw l ++ l.drop (lw l).length := by
            have : l.take (lw l).length = lw l := (List.prefix_iff_eq_take.1 (List.takeWhile_prefix _)).symm
            conv => lhs; rw [← List.take_append_drop (lw l).length l, this]
          have e2 : l.drop ((lw l).length + 2) = z1 := by rw [← List.drop_drop, e1]; rfl
          have e3 := upto_split 34 (l.drop ((lw l).length + 2))
          obtain ⟨z2, e4⟩ := preP_yes hq
          have e5 : l.drop ((lw l).length + 2 + (upto 34 (l.drop ((lw l).length + 2))).length + 1) = z2 := by rw [← List.drop_drop, e4]; rfl
          have e6 := unL_back hu
          refine ⟨hn, ?_, ?_⟩
          · rw [e5]
            show 32 :: l = [32] ++ lw l ++ [61, 34] ++ escL t ++ [34] ++ z2
            rw [List.drop_drop, e4] at e3
            conv => lhs; rw [hl, e1, ← e2, e3]
            rw [e6]; simp
          · have hne := (name_len hn).1
            have := lw_len_le l
            rw [List.length_drop]; omega
        · cases h
    · cases h
  · cases h
/-- the attributes that come behind xs -/
def rdAtts : Nat → List AttrD → List UInt8 → Option (List AttrD × List UInt8)
  | 0, _, _ => none
  | n + 1, xs, l => if preP [32] l = true then (match rdAtt (l.drop 1) with
    | none => none
    | some (a, r) => rdAtts n (xs ++ [a]) r) else some (xs, l)
def nmsB (l : List AttrD) : Bool := l.all fun a => nmB a.vName
theorem rdAtts_of {r : List UInt8} (hr : preP [32] r = false) : ∀ (ys : List AttrD) (n : Nat) (xs : List AttrD), nmsB ys = true → ys.length < n → rdAtts n xs (catK attT ys ++ r) = some (xs ++ ys, r) := by
  intro ys
  induction ys with
  | nil =>
    intro n xs _ hn
    obtain ⟨m, rfl⟩ : ∃ m, n = m + 1 := ⟨n - 1, by simp at hn; omega⟩
    unfold rdAtts
    show (if preP [32] r = true then _ else _) = _
    rw [hr]; simp [catK]
  | cons y ys ih =>
    intro n xs hs hn
    obtain ⟨m, rfl⟩ : ∃ m, n = m + 1 := ⟨n - 1, by simp at hn; omega⟩
    simp only [nmsB, List.all_cons, Bool.and_eq_true] at hs
    have e : catK attT (y :: ys) ++ r = attT y ++ (catK attT ys ++ r) := by simp [catK]
    obtain ⟨l, hl⟩ : ∃ l, attT y ++ (catK attT ys ++ r) = 32 :: l := ⟨_, by simp [attT]; rfl⟩
    have hd : rdAtt l = some (y, catK attT ys ++ r) := rdAtt_of hs.1 _ hl.symm
    have hp : preP [32] (32 :: l) = true := preP_of (p := [32]) (r := l) rfl
    unfold rdAtts
    rw [e, hl, if_pos hp]
    simp only [List.drop_succ_cons, List.drop_zero]
    rw [hd]
    show rdAtts m (xs ++ [y]) _ = _
    rw [ih m (xs ++ [y]) hs.2 (by simp at hn; omega)]
    simp
theorem rdAtts_sound : ∀ (n : Nat) (xs : List AttrD) (l : List UInt8) (zs : List AttrD) (r : List UInt8), rdAtts n xs l = some (zs, r) → ∃ ys, zs = xs ++ ys ∧ l = catK attT ys ++ r ∧ preP [32] r = false ∧ nmsB ys = true := by
  intro n
  induction n with
  | zero => intro xs l zs r h; cases h
  | succ n ih =>
    intro xs l zs r h
    unfold rdAtts at h
    split at h
    · rename_i hp
      cases hx : rdAtt (l.drop 1) with
      | none => rw [hx] at h; cases h
      | some q =>
        obtain ⟨x, r1⟩ := q
        rw [hx] at h
        obtain ⟨ys, e1, e2, e3, e4⟩ := ih _ _ _ _ h
        obtain ⟨s1, s2, _⟩ := rdAtt_sound hx
        obtain ⟨z, hz⟩ := preP_yes hp
        have hd : l.drop 1 = z := by rw [hz]; rfl
        rw [hd] at s2
        refine ⟨x :: ys, by rw [e1]; simp, ?_, e3, by simp only [nmsB, List.all_cons, Bool.and_eq_true]; exact ⟨s1, e4⟩⟩
        have : l = 32 :: z := hz
        rw [this, s2, e2]; simp [catK]
    · rename_i hp
      simp only [Option.some.injEq, Prod.mk.injEq] at h
      obtain ⟨rfl, rfl⟩ := h
      exact ⟨[], by simp, rfl, by cases hq : preP [32] l with | true => exact absurd hq hp | false => rfl, rfl⟩
theorem attT_len (a : AttrD) : 1 ≤ (attT a).length := by rw [attT_length]; omega
theorem catK_attT_len : ∀ ys : List AttrD, ys.length ≤ (catK attT ys).length := by
  intro ys
  induction ys with
  | nil => simp
  | cons y ys ih => have := attT_len y; simp [catK]; omega
/-! ### marks -/
def MdK (f : MarkD → Nat → List UInt8 → List UInt8 → Prop) : List MarkD → Nat → List UInt8 → List UInt8 → Prop
  | [], c, l, r => c = 0 ∧ l = r
  | k :: ks, c, l, r => ∃ c1 c2 m, c = c1 + c2 ∧ f k c1 l m ∧ MdK f ks c2 m r
/-- x is a mark of less than n levels, of c nodes, its names right, no text of it empty; l is its text and behind it r -/
def Md : Nat → MarkD → Nat → List UInt8 → List UInt8 → Prop
  | 0, _, _, _, _ => False
  | n + 1, x, c, l, r => (∃ t : ByteArray, x = MarkD.mk ⟨#[]⟩ t [] [] ∧ c = 1 ∧ l = escL t.data.toList ++ r ∧ l ≠ [] ∧ preP [60] l = false ∧ Op60 r) ∨
    (∃ (s : ByteArray) (as0 : List AttrD) (ks : List MarkD) (m : List UInt8) (c' : Nat), x = MarkD.mk s ⟨#[]⟩ as0 ks ∧ nmB s = true ∧ nmsB as0 = true ∧ c = c' + 1 ∧ l = 60 :: (s.data.toList ++ (catK attT as0 ++ 62 :: m)) ∧ MdK (Md n) ks c' m (60 :: 47 :: (s.data.toList ++ 62 :: r)))
theorem MdK.monoC {f g : MarkD → Nat → List UInt8 → List UInt8 → Prop} {b : Nat} (hf : ∀ x c l r, c ≤ b → f x c l r → g x c l r) : ∀ ks c l r, c ≤ b → MdK f ks c l r → MdK g ks c l r := by
  intro ks
  induction ks with
  | nil => intro c l r _ h; exact h
  | cons k ks ih =>
    intro c l r hc h
    obtain ⟨c1, c2, m, h1, h2, h3⟩ := h
    exact ⟨c1, c2, m, h1, hf _ _ _ _ (by omega) h2, ih _ _ _ (by omega) h3⟩
theorem Md.pos {n : Nat} {x : MarkD} {c : Nat} {l r : List UInt8} (h : Md n x c l r) : 1 ≤ c := by
  cases n with
  | zero => exact h.elim
  | succ n =>
    rcases h with ⟨_, _, h, _⟩ | ⟨_, _, _, _, _, _, _, _, h, _⟩
    · omega
    · omega
theorem Md.deep : ∀ (n m : Nat) (x : MarkD) (c : Nat) (l r : List UInt8), Md n x c l r → c ≤ m → Md m x c l r := by
  intro n
  induction n with
  | zero => intro m x c l r h _; exact h.elim
  | succ n ih =>
    intro m x c l r h hc
    have hp := h.pos
    cases m with
    | zero => omega
    | succ m =>
      rcases h with h | ⟨s, as0, ks, m', c', h1, h2, h3, h4, h5, h6⟩
      · exact Or.inl h
      · exact Or.inr ⟨s, as0, ks, m', c', h1, h2, h3, h4, h5, MdK.monoC (b := m) (fun x c l r q h => ih m x c l r h q) _ _ _ _ (by omega) h6⟩
theorem nm_ne {s : ByteArray} (h : nmB s = true) : ∃ c r, s.data.toList = c :: r ∧ letB (c.toNat : Int) = true := by
  have hl := (name_len h).1
  generalize ht : s.data.toList = t at *
  cases t with
  | nil => simp at hl
  | cons c r => refine ⟨c, r, rfl, lets_get (name_lets (show nameB (c :: r) = true by rw [← ht]; exact h)) c (by simp)⟩
theorem Md.head {n : Nat} {x : MarkD} {c : Nat} {l r z : List UInt8} (h : Md n x c l r) (e : l = 60 :: 47 :: z) : False := by
  cases n with
  | zero => exact h
  | succ n =>
    rcases h with ⟨_, _, _, _, _, h, _⟩ | ⟨s, as0, ks, m, c', _, h2, _, _, h5, _⟩
    · have hp : preP [60] (60 :: 47 :: z) = true := preP_of (p := [60]) (r := 47 :: z) rfl
      rw [e, hp] at h; cases h
    · obtain ⟨c, t, ht, hc⟩ := nm_ne h2
      rw [e, ht] at h5
      simp only [List.cons_append, List.cons.injEq, true_and] at h5
      rw [← h5.1] at hc; exact absurd hc (by decide)
theorem MdK.stop {g : MarkD → Nat → List UInt8 → List UInt8 → Prop} (hh : ∀ x c l r z, g x c l r → l ≠ 60 :: 47 :: z) {ks : List MarkD} {c : Nat} {y z : List UInt8} (h : MdK g ks c (60 :: 47 :: y) (60 :: 47 :: z)) : ks = [] ∧ c = 0 ∧ y = z := by
  cases ks with
  | nil => obtain ⟨h1, h2⟩ := h; simp at h2; exact ⟨rfl, h1, h2⟩
  | cons k ks => obtain ⟨_, _, _, _, h2, _⟩ := h; exact (hh _ _ _ _ _ h2 rfl).elim
theorem Md.stop {m : Nat} {ks : List MarkD} {c : Nat} {y z : List UInt8} (h : MdK (Md m) ks c (60 :: 47 :: y) (60 :: 47 :: z)) : ks = [] ∧ c = 0 ∧ y = z := MdK.stop (fun _ _ _ _ _ h e => Md.head h e) h
/-- marks that are laid out as data are -/
def CanM : Nat → MarkD → Prop
  | 0, _ => False
  | n + 1, x => x = MarkD.mk x.vTag x.vText x.vAttrs x.vKids ∧ ∀ k ∈ x.vKids, CanM n k
theorem canM_mk {n : Nat} {s t : ByteArray} {l : List AttrD} {ks : List MarkD} (h : ∀ k ∈ ks, CanM n k) : CanM (n + 1) (MarkD.mk s t l ks) := ⟨by rw [MarkD.mk_tag, MarkD.mk_text, MarkD.mk_attrs, MarkD.mk_kids], by rw [MarkD.mk_kids]; exact h⟩
theorem em_of {s : ByteArray} (h : s.size = 0) : s = ⟨#[]⟩ := by
  obtain ⟨⟨l⟩⟩ := s
  have : l.length = 0 := h
  rw [List.eq_nil_of_length_eq_zero this]
theorem op60_pre {l : List UInt8} (h : Op60 l) (hn : l ≠ []) : ∃ z, l = 60 :: z := by
  cases l with
  | nil => exact absurd rfl hn
  | cons d z => exact ⟨z, by rw [h d z rfl]⟩
/-- the texts of right kids: those that are texts stand ahead of a sign that opens -/
theorem mzF_md {f : MarkD → Nat → List UInt8 → List UInt8 → Prop} {g : MarkD → Int → Option Int} {t : MarkD → List UInt8} {z : List UInt8} : ∀ (ks : List MarkD) (p : Bool) (room size m : Int), (∀ k ∈ ks, ∀ room m, g k room = some m → ∀ r, (isT k = true → Op60 r) → ∃ c : Nat, (c : Int) = m ∧ f k c (t k ++ r) r) → (∀ k ∈ ks, ∀ room m, g k room = some m → isT k = false → ∀ r, Op60 (t k ++ r)) → mzF g p ks room size = some m → ∃ c : Nat, size + (c : Int) = m ∧ MdK f ks c (catK t ks ++ 60 :: z) (60 :: z) ∧ (p = true → Op60 (catK t ks ++ 60 :: z)) := by
  intro ks
  induction ks with
  | nil => intro p room size m _ _ h; simp [mzF] at h; exact ⟨0, by omega, ⟨rfl, rfl⟩, fun _ d q e => by injection e with e _; exact e.symm⟩
  | cons k ks ih =>
    intro p room size m hf ho h
    unfold mzF at h
    split at h
    · cases h
    · rename_i q hq
      split at h
      · cases h
      · rename_i hp
        obtain ⟨c2, e2, f2, o2⟩ := ih _ room (size + q) m (fun k hk => hf k (List.mem_cons_of_mem _ hk)) (fun k hk => ho k (List.mem_cons_of_mem _ hk)) h
        obtain ⟨c1, e1, f1⟩ := hf k (by simp) _ _ hq (catK t ks ++ 60 :: z) o2
        have e : catK t (k :: ks) ++ 60 :: z = t k ++ (catK t ks ++ 60 :: z) := by simp [catK]
        refine ⟨c1 + c2, by omega, ⟨c1, c2, _, rfl, by rw [e]; exact f1, f2⟩, fun hp1 => ?_⟩
        rw [e]
        have hk : isT k = false := by cases hk : isT k with | true => (rw [hp1, hk] at hp; exact absurd rfl hp) | false => rfl
        exact ho k (by simp) _ _ hq hk _
/-- a right mark is one that is read -/
theorem md_of : ∀ (n : Nat) (x : MarkD) (room m : Int), CanM n x → mzD n x room = some m → ∀ r, (isT x = true → Op60 r) → ∃ c : Nat, (c : Int) = m ∧ Md n x c (mtD n x ++ r) r := by
  intro n
  induction n with
  | zero => intro x room m h; exact h.elim
  | succ n ih =>
    intro x room m h hs r hr
    obtain ⟨h1, h2⟩ := h
    have hself : selfB x = true ∧ 1 ≤ room := by
      unfold mzD at hs
      split at hs
      · cases hs
      · rename_i hc; constructor
        · cases hb : selfB x with
          | true => rfl
          | false => exact absurd (Or.inr hb) hc
        · omega
    have hkids : ∀ k ∈ x.vKids, ∀ room m, mzD n k room = some m → isT k = false → ∀ r, Op60 (mtD n k ++ r) := by
      intro k _ room m hk ht r d z e
      cases n with
      | zero => simp [mzD] at hk
      | succ n => rw [mtD_tag ht] at e; simp [headM] at e; exact e.1.symm
    cases ht : isT x with
    | true =>
      have htb : textB x = true := by have := hself.1; unfold selfB at this; rw [ht] at this; simpa using this
      rw [mzD_text hself.2 ht htb] at hs
      injection hs with hs
      refine ⟨1, by omega, Or.inl ⟨x.vText, ?_, rfl, by rw [mtD_text ht], ?_, ?_, hr ht⟩⟩
      · simp only [textB, Bool.and_eq_true, decide_eq_true_eq] at htb
        have e1 := em_of (show x.vTag.size = 0 by simpa [isT] using ht)
        have e3 := List.eq_nil_of_length_eq_zero htb.1.2
        have e4 := List.eq_nil_of_length_eq_zero htb.2
        conv => lhs; rw [h1]
        rw [e1, e3, e4]
      all_goals
        simp only [textB, Bool.and_eq_true, decide_eq_true_eq, Bool.not_eq_true', decide_eq_false_iff_not] at htb
        rw [mtD_text ht]
        have hne : x.vText.data.toList ≠ [] := fun e => htb.1.1.1 (by rw [← bd_len, e]; rfl)
        generalize x.vText.data.toList = t at hne
        cases t with
        | nil => exact absurd rfl hne
        | cons c t => ?_
      · intro e
        have h := congrArg List.length e
        have h2 : (escL (c :: t)).length = (escB c).length + (escL t).length := by simp [escL]
        have h3 := (escB_length c).2
        rw [List.length_append, List.length_nil] at h
        omega
      · have h3 := (escB_length c).2
        obtain ⟨d, u, hd⟩ : ∃ d u, escB c = d :: u := by
          cases hq : escB c with
          | nil => rw [hq] at h3; simp at h3
          | cons d u => exact ⟨d, u, rfl⟩
        have h4 := (esc_no (l := c :: t) d (by simp [escL, hd])).1
        show preP [60] (escB c ++ escL t ++ r) = false
        rw [hd]
        show ([d] == [60]) = false
        simp [h4]
    | false =>
      have htb : tagB x = true := by have := hself.1; unfold selfB at this; rw [ht] at this; simpa using this
      simp only [tagB, Bool.and_eq_true, decide_eq_true_eq] at htb
      rw [mzD_yes hself.2 hself.1] at hs
      obtain ⟨c, e1, e2, _⟩ := mzF_md (f := Md n) (t := mtD n) (z := 47 :: (x.vTag.data.toList ++ 62 :: r)) x.vKids false room 1 m (fun k hk room m q r hr => ih k room m (h2 k hk) q r hr) hkids hs
      refine ⟨c + 1, by omega, Or.inr ⟨x.vTag, x.vAttrs, x.vKids, _, c, ?_, htb.1.1.1, ?_, rfl, ?_, e2⟩⟩
      · conv => lhs; rw [h1]
        rw [em_of htb.1.1.2]
      · have : ∀ (l : List AttrD) (p : Option ByteArray), attF p l = true → nmsB l = true := by
          intro l
          induction l with
          | nil => intro p _; rfl
          | cons a l ih =>
            intro p hq
            unfold attF at hq
            simp only [Bool.and_eq_true] at hq
            simp only [nmsB, List.all_cons, Bool.and_eq_true]
            exact ⟨hq.1.1.1, ih _ hq.2⟩
        exact this _ _ htb.2
      · rw [mtD_tag ht]; simp [headM, footM]
end Go.Proofs.YtlcddndpfhdakaaDoor
