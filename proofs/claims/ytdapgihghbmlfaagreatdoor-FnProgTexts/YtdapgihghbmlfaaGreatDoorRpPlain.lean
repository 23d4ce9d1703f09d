/- Texts of programs as a reader meets them: plain facts. -/
import Derived.Test.YtdapgihghbmlfaaGreatDoorVmText
import Derived.Test.YtdapgihghbmlfaaGreatDoorRtSmall
import Derived.Lib.ParseIntBTie
import Derived.Lib.AtoiTie
namespace Go.Proofs.YtdapgihghbmlfaaGreatDoor
open Go.RowKit
/-- may this byte stand in a number? -/
def numS (c : UInt8) : Bool := decide (c = 45) || (decide (48 ≤ c.toNat) && decide (c.toNat ≤ 57))
/-- the bytes of a number at the beginning -/
def nw (l : List UInt8) : List UInt8 := l.takeWhile numS
theorem dig_val {d : Nat} (h : d < 10) : Lib.digitVal (UInt8.ofNat (48 + d)) = some d := by
  have : (UInt8.ofNat (48 + d)).toNat = 48 + d := by simp [UInt8.toNat_ofNat']; omega
  unfold Lib.digitVal
  rw [this, if_pos (by omega)]; simp
theorem numS_dig {d : Nat} (h : d < 10) : numS (UInt8.ofNat (48 + d)) = true := by
  have : (UInt8.ofNat (48 + d)).toNat = 48 + d := by simp [UInt8.toNat_ofNat']; omega
  unfold numS
  rw [this]; simp; omega
theorem decFrom_digits : ∀ (u acc : Nat) (r : List UInt8), ∃ k, Lib.decFrom acc (Lib.decDigits u ++ r) = Lib.decFrom (acc * 10 ^ k + u) r := by
  intro u
  induction u using Nat.strongRecOn with
  | ind u ih =>
    intro acc r
    by_cases h : u < 10
    · refine ⟨1, ?_⟩
      rw [Lib.decDigits_one h]
      simp only [List.singleton_append, Lib.decFrom, dig_val h, Nat.pow_one]
    · obtain ⟨k, hk⟩ := ih (u / 10) (by omega) acc ([UInt8.ofNat (48 + u % 10)] ++ r)
      refine ⟨k + 1, ?_⟩
      rw [← decDigits_step (by omega : 10 ≤ u), hk]
      simp only [List.singleton_append, Lib.decFrom, dig_val (Nat.mod_lt u (by omega : 10 > 0))]
      congr 1
      rw [Nat.pow_succ, Nat.add_mul, ← Nat.mul_assoc]; omega
theorem dec_ne (u : Nat) : Lib.decDigits u ≠ [] := fun e => by
  have h1 := Lib.decDigits_length u
  have h2 := Lib.nDigits_pos u
  rw [e] at h1; simp at h1; omega
theorem decNat_digits (u : Nat) : Lib.decNat (Lib.decDigits u) = some u := by
  unfold Lib.decNat
  rw [if_neg (by simp [dec_ne u])]
  obtain ⟨k, hk⟩ := decFrom_digits u 0 []
  rw [List.append_nil] at hk
  rw [hk]; simp [Lib.decFrom]
theorem digs_all : ∀ (u : Nat), ∀ c ∈ Lib.decDigits u, 48 ≤ c.toNat ∧ c.toNat ≤ 57 := by
  intro u c hc
  obtain ⟨i, hi, rfl⟩ := List.mem_iff_getElem.1 hc
  have h := decFrom_digits u 0 []
  obtain ⟨k, hk⟩ := h
  rw [List.append_nil] at hk
  obtain ⟨d, hd⟩ := Lib.digit_of_decFrom (Lib.decDigits u) 0 (0 * 10 ^ k + u) (by rw [hk]; rfl) i _ (List.getElem?_eq_getElem hi)
  have := Lib.digitVal_eq hd
  exact ⟨this.1, this.2.1⟩
theorem atoi_itoa (n : Int) : Lib.atoi (Lib.itoa n) = some n := by
  unfold Lib.itoa
  split
  · simp only [Lib.atoi, beq_self_eq_true, if_true, decNat_digits, Option.map_some, Option.some.injEq]; omega
  · cases hd : Lib.decDigits n.toNat with
    | nil => exact absurd hd (dec_ne _)
    | cons b r =>
      have hb := digs_all n.toNat b (by rw [hd]; simp)
      have h45 : (b == 45) = false := by simp; intro e; rw [e] at hb; simp at hb
      have h43 : (b == 43) = false := by simp; intro e; rw [e] at hb; simp at hb
      simp only [Lib.atoi, h45, h43, Bool.false_eq_true, if_false]
      rw [← hd, decNat_digits]; simp; omega
theorem itoa_len {n : Int} (h0 : -1000000 ≤ n) (h1 : n ≤ 1000000) : (Lib.itoa n).length ≤ 8 := by
  have := decT_small h0 h1
  rw [← stx_len] at this; simpa [decT] using this
theorem parse_itoa {n : Int} (h0 : -1000000 ≤ n) (h1 : n ≤ 1000000) : Lib.parseIntB 64 (Lib.itoa n) = .ok n := by
  rw [Lib.parseIntB_64, Lib.atoiAll_short _ (by have := itoa_len h0 h1; omega), atoi_itoa]; rfl
theorem itoa_num (n : Int) : ∀ c ∈ Lib.itoa n, numS c = true := by
  intro c hc
  have key : ∀ u, c ∈ Lib.decDigits u → numS c = true := fun u h => by have := digs_all u c h; unfold numS; simp; omega
  unfold Lib.itoa at hc
  split at hc
  · rcases List.mem_cons.1 hc with rfl | h
    · rfl
    · exact key _ h
  · exact key _ hc
theorem itoa_ne (n : Int) : Lib.itoa n ≠ [] := by
  unfold Lib.itoa; split
  · simp
  · exact dec_ne _
theorem nw_of {a b : List UInt8} (ha : ∀ c ∈ a, numS c = true) (hb : ∀ c r, b = c :: r → numS c = false) : nw (a ++ b) = a := by
  induction a with
  | nil =>
    cases b with
    | nil => rfl
    | cons c r => simp [nw, hb c r rfl]
  | cons c a ih =>
    have := ih (fun d hd => ha d (by simp [hd]))
    simp only [nw, List.cons_append, List.takeWhile_cons, ha c (by simp), if_true] at this ⊢
    rw [this]
/-- a number is read -/
def rdNum (l : List UInt8) : Option (Int × List UInt8) := match Lib.parseIntB 64 (nw l) with
  | .ok v => if Lib.itoa v = nw l then some (v, l.drop (nw l).length) else none
  | _ => none
theorem rdNum_of {n : Int} (h0 : -1000000 ≤ n) (h1 : n ≤ 1000000) {r : List UInt8} (hr : ∀ c z, r = c :: z → numS c = false) : rdNum (Lib.itoa n ++ r) = some (n, r) := by
  unfold rdNum
  rw [nw_of (itoa_num n) hr, parse_itoa h0 h1]
  simp
theorem take_nw (l : List UInt8) : l.take (nw l).length = nw l := (List.prefix_iff_eq_take.1 (List.takeWhile_prefix _)).symm
theorem rdNum_sound {l r : List UInt8} {n : Int} (h : rdNum l = some (n, r)) : l = Lib.itoa n ++ r := by
  unfold rdNum at h
  split at h
  · split at h
    · rename_i v hv he
      simp only [Option.some.injEq, Prod.mk.injEq] at h
      obtain ⟨rfl, rfl⟩ := h
      rw [he]
      conv => lhs; rw [← List.take_append_drop (nw l).length l, take_nw]
    · cases h
  · cases h
/-! ### words -/
def wordIs (t : List UInt8) (k : Nat) : Bool := decide ((wordT (k : Int)).data.toList = t)
/-- the kind that is called so; 0: none -/
def wordN (t : List UInt8) : Nat := if wordIs t 1 then 1 else if wordIs t 2 then 2 else if wordIs t 3 then 3 else if wordIs t 4 then 4 else if wordIs t 5 then 5 else if wordIs t 6 then 6 else if wordIs t 7 then 7 else if wordIs t 8 then 8 else
  if wordIs t 9 then 9 else if wordIs t 10 then 10 else if wordIs t 11 then 11 else if wordIs t 12 then 12 else if wordIs t 13 then 13 else if wordIs t 14 then 14 else if wordIs t 15 then 15 else 0
def wordK (t : List UInt8) : Int := (wordN t : Int)
theorem wordN_of : ∀ k : Fin 15, wordN (wordT ((k.val + 1 : Nat) : Int)).data.toList = k.val + 1 := by decide +kernel
theorem wordK_of {k : Int} (h : 1 ≤ k ∧ k ≤ 15) : wordK (wordT k).data.toList = k := by
  have e := wordN_of ⟨(k - 1).toNat, by omega⟩
  have e2 : (((k - 1).toNat + 1 : Nat) : Int) = k := by omega
  simp only at e
  rw [e2] at e
  unfold wordK; rw [e]; exact e2
theorem wordN_some (t : List UInt8) : wordN t = 0 ∨ (1 ≤ wordN t ∧ wordN t ≤ 15 ∧ wordIs t (wordN t) = true) := by
  have key : ∀ (k : Nat) (r : Nat), 1 ≤ k → k ≤ 15 → (r = 0 ∨ (1 ≤ r ∧ r ≤ 15 ∧ wordIs t r = true)) → ((if wordIs t k = true then k else r) = 0 ∨ (1 ≤ (if wordIs t k = true then k else r) ∧ (if wordIs t k = true then k else r) ≤ 15 ∧ wordIs t (if wordIs t k = true then k else r) = true)) := fun k r h1 h2 hr => by
    by_cases h : wordIs t k = true
    · rw [if_pos h]; exact Or.inr ⟨h1, h2, h⟩
    · rw [if_neg h]; exact hr
  unfold wordN
  repeat refine key _ _ (by omega) (by omega) ?_
  left; rfl
theorem wordK_some {t : List UInt8} (h : ¬ wordK t = 0) : (1 ≤ wordK t ∧ wordK t ≤ 15) ∧ t = (wordT (wordK t)).data.toList := by
  unfold wordK at h ⊢
  rcases wordN_some t with e | ⟨h1, h2, h3⟩
  · rw [e] at h; simp at h
  · exact ⟨by omega, by have h4 : (wordT ((wordN t : Nat) : Int)).data.toList = t := by simpa [wordIs] using h3
                        exact h4.symm⟩
theorem wordK_zero {t : List UInt8} (h : wordK t = 0) {k : Int} (hk : 1 ≤ k ∧ k ≤ 15) : t ≠ (wordT k).data.toList := fun e => by
  rw [e, wordK_of hk] at h; omega
theorem word_name : ∀ k : Fin 15, nameB (wordT ((k.val + 1 : Nat) : Int)).data.toList = true := by decide +kernel
theorem wordT_name {k : Int} (h : 1 ≤ k ∧ k ≤ 15) : nameB (wordT k).data.toList = true := by
  have e := word_name ⟨(k - 1).toNat, by omega⟩
  have e2 : (((k - 1).toNat + 1 : Nat) : Int) = k := by omega
  simp only at e
  rw [e2] at e; exact e
/-! ### instructions -/
def instrL (x : InstrD) : List UInt8 := (instrT x).data.toList
/-- what stands beside the word is read -/
def rdOpd (k : Int) (r : List UInt8) : Option (InstrD × List UInt8) :=
  if opT k = 0 then some (⟨k, 0, ⟨#[]⟩⟩, r) else if preP [32] r = true then
    (if opT k = 3 then (if nameB (lw (r.drop 1)) = true then some (⟨k, 0, ⟨(lw (r.drop 1)).toArray⟩⟩, (r.drop 1).drop (lw (r.drop 1)).length) else none)
      else (rdNum (r.drop 1)).map fun q => (⟨k, q.1, ⟨#[]⟩⟩, q.2)) else none
def rdInstr (l : List UInt8) : Option (InstrD × List UInt8) :=
  if nameB (lw l) = true then (if wordK (lw l) = 0 then none else rdOpd (wordK (lw l)) (l.drop (lw l).length)) else none
/-- behind an instruction there is nothing, or a semicolon -/
def SepP (r : List UInt8) : Prop := ∀ c z, r = c :: z → c = 59
theorem SepP.num {r : List UInt8} (h : SepP r) : ∀ c z, r = c :: z → numS c = false := fun c z e => by rw [h c z e]; rfl
theorem SepP.let {r : List UInt8} (h : SepP r) : ∀ c z, r = c :: z → letB (c.toNat : Int) = false := fun c z e => by rw [h c z e]; decide
theorem take_lw (l : List UInt8) : l.take (lw l).length = lw l := (List.prefix_iff_eq_take.1 (List.takeWhile_prefix _)).symm
theorem lw_blank {a r : List UInt8} (ha : letsB a = true) : lw (a ++ (32 :: r)) = a := lw_of ha (fun c z e => by injection e with e _; rw [← e]; decide)
theorem ext_instr {x : InstrD} {k n : Int} {s : ByteArray} (h1 : k = x.vKind) (h2 : n = x.vN) (h3 : s = x.vName) : (⟨k, n, s⟩ : InstrD) = x := by subst h1 h2 h3; rfl
theorem rdInstr_of {x : InstrD} (h : instrB x = true) {r : List UInt8} (hr : SepP r) : rdInstr (instrL x ++ r) = some (x, r) := by
  have hk := instrB_kind h
  have hw := wordT_name hk
  have hwl := name_lets hw
  have hwk := wordK_of hk
  have h0 := h
  rw [instrB_some hk] at h
  have hne : ¬ x.vKind = 0 := by omega
  rcases opT_range x.vKind with q | q
  · rw [q, opdB_none] at h
    simp at h
    have e : instrL x ++ r = (wordT x.vKind).data.toList ++ r := by unfold instrL; rw [instrT_none q]
    unfold rdInstr
    rw [e, lw_of hwl hr.let, if_pos hw, hwk, if_neg hne, List.drop_left]
    unfold rdOpd
    rw [if_pos q, ext_instr rfl h.1.symm (by have := h.2; simp [emB] at this; exact this.symm)]
  · by_cases q3 : opT x.vKind = 3
    · rw [q3, opdB_name] at h
      simp at h
      have e : instrL x ++ r = (wordT x.vKind).data.toList ++ (32 :: (x.vName.data.toList ++ r)) := by
        unfold instrL; rw [instrT_name q3, stx_app, stx_app]; simp
      have hp : preP [32] (32 :: (x.vName.data.toList ++ r)) = true := preP_of (p := [32]) (r := x.vName.data.toList ++ r) rfl
      unfold rdInstr
      rw [e, lw_blank hwl, if_pos hw, hwk, if_neg hne, List.drop_left]
      unfold rdOpd
      rw [if_neg (by omega), if_pos hp, if_pos q3, List.drop_succ_cons, List.drop_zero, lw_of (name_lets h.2) hr.let, if_pos h.2, List.drop_left,
        ext_instr rfl h.1.symm (ba_of (by simp))]
    · have qn : opT x.vKind = 1 ∨ opT x.vKind = 2 := by omega
      have hnum := instrB_num h0
      have hem : (⟨#[]⟩ : ByteArray) = x.vName := by
        rcases qn with qn | qn <;> rw [qn] at h
        · rw [opdB_num] at h; simp [emB] at h; exact h.2.symm
        · rw [opdB_place] at h; simp [emB] at h; exact h.2.symm
      have e : instrL x ++ r = (wordT x.vKind).data.toList ++ (32 :: (Lib.itoa x.vN ++ r)) := by
        unfold instrL; rw [instrT_num qn, stx_app, stx_app]; simp [decT]
      have hp : preP [32] (32 :: (Lib.itoa x.vN ++ r)) = true := preP_of (p := [32]) (r := Lib.itoa x.vN ++ r) rfl
      unfold rdInstr
      rw [e, lw_blank hwl, if_pos hw, hwk, if_neg hne, List.drop_left]
      unfold rdOpd
      rw [if_neg (by omega), if_pos hp, if_neg q3, List.drop_succ_cons, List.drop_zero, rdNum_of hnum.1 hnum.2 hr.num]
      simp only [Option.map_some]
      rw [ext_instr rfl rfl hem]
theorem rdOpd_sound {k : Int} {l r : List UInt8} {x : InstrD} (h : rdOpd k l = some (x, r)) : (wordT k).data.toList ++ l = instrL x ++ r ∧ r.length ≤ l.length ∧ x.vName.size ≤ 6 ∧ InI x.vN ∧ x.vKind = k := by
  unfold rdOpd at h
  split at h
  · rename_i q
    simp only [Option.some.injEq, Prod.mk.injEq] at h
    obtain ⟨rfl, rfl⟩ := h
    refine ⟨?_, Nat.le_refl _, Nat.zero_le _, by (show InI 0; unfold InI; decide), rfl⟩
    unfold instrL; rw [instrT_none q]
  · rename_i q0
    split at h
    · rename_i hp
      obtain ⟨z, hz⟩ := preP_yes hp
      subst hz
      simp only [List.singleton_append, List.drop_succ_cons, List.drop_zero] at h
      split at h
      · rename_i q3
        split at h
        · rename_i hn
          simp only [Option.some.injEq, Prod.mk.injEq] at h
          obtain ⟨rfl, rfl⟩ := h
          have hl := name_len hn
          refine ⟨?_, by simp; omega, by rw [← stx_len]; simpa using hl.2, by (show InI 0; unfold InI; decide), rfl⟩
          unfold instrL; rw [instrT_name q3, stx_app, stx_app]
          simp only [List.append_assoc]
          have : z = lw z ++ z.drop (lw z).length := by conv => lhs; rw [← List.take_append_drop (lw z).length z, take_lw]
          conv => lhs; rw [this]
        · cases h
      · rename_i q3
        obtain ⟨⟨n, r1⟩, h1, h2⟩ := Option.map_eq_some_iff.1 h
        simp only [Prod.mk.injEq] at h2
        obtain ⟨rfl, rfl⟩ := h2
        have hz := rdNum_sound h1
        have hI : InI n := by
          unfold rdNum at h1
          split at h1
          · rename_i v hv
            split at h1
            · simp only [Option.some.injEq, Prod.mk.injEq] at h1
              obtain ⟨rfl, _⟩ := h1
              have := Lib.parseIntB_bounds hv
              unfold InI; simp at this ⊢; omega
            · cases h1
          · cases h1
        have qn : opT k = 1 ∨ opT k = 2 := by rcases opT_range k with q | q | q | q <;> omega
        refine ⟨?_, by rw [hz]; simp; omega, Nat.zero_le _, hI, rfl⟩
        unfold instrL; rw [instrT_num (x := ⟨k, n, ⟨#[]⟩⟩) qn, stx_app, stx_app, hz]
        simp [decT]
    · cases h
theorem rdInstr_sound {l r : List UInt8} {x : InstrD} (h : rdInstr l = some (x, r)) : l = instrL x ++ r ∧ r.length < l.length ∧ x.vName.size ≤ 6 ∧ InI x.vN ∧ 1 ≤ x.vKind ∧ x.vKind ≤ 15 := by
  unfold rdInstr at h
  split at h
  · rename_i hn
    split at h
    · cases h
    · rename_i hk
      obtain ⟨hkr, hkw⟩ := wordK_some hk
      obtain ⟨h1, h2, h3, h4, h5⟩ := rdOpd_sound h
      have hl := name_len hn
      have hll := lw_len_le l
      rw [← hkw] at h1
      have e : l = lw l ++ l.drop (lw l).length := by conv => lhs; rw [← List.take_append_drop (lw l).length l, take_lw]
      refine ⟨e.trans h1, ?_, h3, h4, by omega, by omega⟩
      rw [List.length_drop] at h2; omega
  · cases h
/-! ### programs -/
def textP : List InstrD → List UInt8
  | [] => []
  | x :: xs => instrL x ++ (if xs = [] then [] else 59 :: 32 :: textP xs)
def tailP (xs : List InstrD) : List UInt8 := if xs = [] then [] else 59 :: 32 :: textP xs
theorem textP_cons (x : InstrD) (xs : List InstrD) : textP (x :: xs) = instrL x ++ tailP xs := rfl
theorem tailP_sep (xs : List InstrD) : SepP (tailP xs) := by
  intro c z h
  unfold tailP at h
  split at h
  · cases h
  · injection h with h _; exact h.symm
theorem tailP_cons (x : InstrD) (xs : List InstrD) : tailP (x :: xs) = 59 :: 32 :: (instrL x ++ tailP xs) := by
  unfold tailP; rw [if_neg (by simp), textP_cons]; rfl
theorem joinTail_tailP : ∀ (xs : List InstrD), Lib.joinTail [59, 32] ((xs.map instrT).map (·.data.toList)) = tailP xs := by
  intro xs
  induction xs with
  | nil => rfl
  | cons x xs ih =>
    have e : Lib.joinTail [59, 32] (((x :: xs).map instrT).map (·.data.toList)) = [59, 32] ++ (instrT x).data.toList ++ Lib.joinTail [59, 32] ((xs.map instrT).map (·.data.toList)) := by simp [Lib.joinTail]
    rw [e, ih, tailP_cons]
    simp [instrL]
theorem joinT_textP (l : List InstrD) : joinT l = textP l := by
  cases l with
  | nil => rfl
  | cons x xs =>
    show Lib.join _ _ = _
    simp only [List.map_cons, Lib.join_cons]
    rw [joinTail_tailP, textP_cons]; rfl
/-- the instructions that come behind xs -/
def rdMoreP : Nat → List InstrD → List UInt8 → Option (List InstrD × List UInt8)
  | 0, _, _ => none
  | n + 1, xs, l => if preP [59] l = true then (if preP [59, 32] l = true then (match rdInstr (l.drop 2) with
    | none => none
    | some (x, r) => rdMoreP n (xs ++ [x]) r) else none) else some (xs, l)
def rdProg (l : List UInt8) : Option (List InstrD × List UInt8) := match rdInstr l with
  | none => none
  | some (x, r) => rdMoreP (l.length + 1) [x] r
theorem preP_semi (r : List UInt8) : preP [59] (59 :: 32 :: r) = true := preP_of (p := [59]) (r := 32 :: r) rfl
theorem preP_semi2 (r : List UInt8) : preP [59, 32] (59 :: 32 :: r) = true := preP_of (p := [59, 32]) (r := r) rfl
theorem rdMoreP_of : ∀ (ys : List InstrD) (n : Nat) (xs : List InstrD), (∀ y ∈ ys, instrB y = true) → ys.length < n → rdMoreP n xs (tailP ys) = some (xs ++ ys, []) := by
  intro ys
  induction ys with
  | nil =>
    intro n xs _ hn
    obtain ⟨m, rfl⟩ : ∃ m, n = m + 1 := ⟨n - 1, by simp at hn; omega⟩
    simp [rdMoreP, tailP, preP]
  | cons y ys ih =>
    intro n xs hs hn
    obtain ⟨m, rfl⟩ : ∃ m, n = m + 1 := ⟨n - 1, by simp at hn; omega⟩
    unfold rdMoreP
    rw [tailP_cons, if_pos (preP_semi _), if_pos (preP_semi2 _)]
    simp only [List.drop_succ_cons, List.drop_zero]
    rw [rdInstr_of (hs y (by simp)) (tailP_sep ys)]
    show rdMoreP m (xs ++ [y]) (tailP ys) = _
    rw [ih m (xs ++ [y]) (fun z hz => hs z (by simp [hz])) (by simp at hn; omega)]
    simp
theorem tailP_len : ∀ ys : List InstrD, ys.length ≤ (tailP ys).length := by
  intro ys
  induction ys with
  | nil => simp
  | cons y ys ih => rw [tailP_cons]; simp; omega
theorem rdProg_of {l : List InstrD} (h0 : l ≠ []) (h : ∀ y ∈ l, instrB y = true) : rdProg (textP l) = some (l, []) := by
  cases l with
  | nil => exact absurd rfl h0
  | cons x xs =>
    unfold rdProg
    rw [textP_cons, rdInstr_of (h x (by simp)) (tailP_sep xs)]
    show rdMoreP _ [x] (tailP xs) = _
    rw [rdMoreP_of xs _ [x] (fun z hz => h z (by simp [hz])) (by have := tailP_len xs; simp; omega)]
    rfl
theorem rdMoreP_sound : ∀ (n : Nat) (xs : List InstrD) (l : List UInt8) (zs : List InstrD) (r : List UInt8), rdMoreP n xs l = some (zs, r) → ∃ ys, zs = xs ++ ys ∧ l = tailP ys ++ r := by
  intro n
  induction n with
  | zero => intro xs l zs r h; cases h
  | succ n ih =>
    intro xs l zs r h
    unfold rdMoreP at h
    split at h
    · split at h
      · rename_i hp
        cases hx : rdInstr (l.drop 2) with
        | none => rw [hx] at h; cases h
        | some q =>
          obtain ⟨x, r1⟩ := q
          rw [hx] at h
          obtain ⟨ys, e1, e2⟩ := ih _ _ _ _ h
          obtain ⟨s2, _⟩ := rdInstr_sound hx
          obtain ⟨z, hz⟩ := preP_yes hp
          have hd : l.drop 2 = z := by rw [hz]; rfl
          rw [hd] at s2
          refine ⟨x :: ys, by rw [e1]; simp, ?_⟩
          rw [hz, s2, e2, tailP_cons]; simp
      · cases h
    · simp only [Option.some.injEq, Prod.mk.injEq] at h
      obtain ⟨rfl, rfl⟩ := h
      exact ⟨[], by simp, rfl⟩
theorem rdProg_sound {l : List UInt8} {zs : List InstrD} {r : List UInt8} (h : rdProg l = some (zs, r)) : l = textP zs ++ r := by
  unfold rdProg at h
  cases hx : rdInstr l with
  | none => rw [hx] at h; cases h
  | some q =>
    obtain ⟨x, r1⟩ := q
    rw [hx] at h
    obtain ⟨ys, e1, e2⟩ := rdMoreP_sound _ _ _ _ _ h
    rw [e1, (rdInstr_sound hx).1, e2]
    show _ = textP (x :: ys) ++ r
    rw [textP_cons]; simp
theorem allB_mem {l : List InstrD} (h : allB l = true) : ∀ y ∈ l, instrB y = true := fun y hy => by
  obtain ⟨i, hi, rfl⟩ := List.mem_iff_getElem.1 hy
  exact allB_get h i hi
/-- a program is right -/
def OkP (l : List InstrD) : Prop := ∃ ys, Ans l true ys
theorem OkP.parts {l : List InstrD} (h : OkP l) : l ≠ [] ∧ l.length ≤ 20 ∧ ∀ y ∈ l, instrB y = true := by
  obtain ⟨ys, h⟩ := h
  obtain ⟨h1, h2, h3⟩ := ans_right h
  exact ⟨fun e => by rw [e] at h1; simp at h1, h2, allB_mem h3⟩
/-- what a reader of programs answers -/
def ReadsP (s : ByteArray) (x : List InstrD) (b : Bool) : Prop := (b = true ∧ OkP x ∧ s.data.toList = textP x) ∨ (b = false ∧ x = [] ∧ ∀ l', OkP l' → s.data.toList ≠ textP l')
theorem textP_inj {l m : List InstrD} (hl : OkP l) (hm : OkP m) (e : textP l = textP m) : l = m := by
  have h1 := rdProg_of hl.parts.1 hl.parts.2.2
  have h2 := rdProg_of hm.parts.1 hm.parts.2.2
  rw [e, h2] at h1
  simp only [Option.some.injEq, Prod.mk.injEq] at h1
  exact h1.1.symm
theorem readsP_same {s : ByteArray} {x y : List InstrD} {b c : Bool} (h1 : ReadsP s x b) (h2 : ReadsP s y c) : x = y ∧ b = c := by
  rcases h1 with ⟨rfl, o1, e1⟩ | ⟨rfl, rfl, n1⟩ <;> rcases h2 with ⟨rfl, o2, e2⟩ | ⟨rfl, rfl, n2⟩
  · exact ⟨textP_inj o1 o2 (e1 ▸ e2), rfl⟩
  · exact absurd e1 (n2 _ o1)
  · exact absurd e2 (n1 _ o2)
  · exact ⟨rfl, rfl⟩
theorem word_five : ∀ k : Fin 4, (wordT ((k.val + 3 : Nat) : Int)).data.toList.length ≤ 5 := by decide +kernel
theorem itoa_two : ∀ n : Fin 20, (Lib.itoa (n.val : Int)).length ≤ 2 := fun n => by
  unfold Lib.itoa
  rw [if_neg (by omega), Lib.decDigits_length]
  have := n.isLt
  have e : ((n.val : Int)).toNat = n.val := by omega
  rw [e]
  by_cases h : n.val < 10
  · rw [Lib.nDigits_small h]; omega
  · rw [Lib.nDigits_big h, Lib.nDigits_small (by omega)]; exact Nat.le_refl _
theorem instrL_len {x : InstrD} (h : instrB x = true) : (instrL x).length ≤ 12 := by
  have hk := instrB_kind h
  have hw : (wordT x.vKind).data.toList.length ≤ 6 := by rw [stx_len]; exact wordT_small _
  have h0 := h
  rw [instrB_some hk] at h
  unfold instrL
  rcases opT_range x.vKind with q | q | q | q
  · rw [instrT_none q]; omega
  · rw [instrT_num (Or.inl q), stx_app, stx_app]
    have hk1 : x.vKind = 1 := by
      unfold opT at q
      by_cases e : x.vKind = 1
      · exact e
      · rw [if_neg e] at q; split at q
        · omega
        · split at q <;> omega
    have := itoa_len (instrB_num h0).1 (instrB_num h0).2
    rw [hk1]
    have e3 : (wordT 1).data.toList.length = 3 := by decide +kernel
    simp only [List.length_append, e3]
    simp [decT]; omega
  · rw [instrT_num (Or.inr q), stx_app, stx_app]
    rw [q, opdB_place] at h
    simp at h
    have e := itoa_two ⟨x.vN.toNat, by omega⟩
    have e2 : ((x.vN.toNat : Nat) : Int) = x.vN := by omega
    simp only at e
    rw [e2] at e
    simp only [List.length_append]
    simp [decT]; simp at hw; omega
  · have hk3 : 3 ≤ x.vKind ∧ x.vKind ≤ 6 := by
      unfold opT at q
      split at q
      · omega
      · split at q
        · omega
        · split at q
          · rename_i e; exact e
          · omega
    have e := word_five ⟨(x.vKind - 3).toNat, by omega⟩
    have e2 : (((x.vKind - 3).toNat + 3 : Nat) : Int) = x.vKind := by omega
    simp only at e
    rw [e2] at e
    have hn : x.vName.data.toList.length ≤ 6 := by rw [stx_len]; exact instrB_nm h0
    rw [instrT_name q, stx_app, stx_app]
    simp only [List.length_append] at *
    simp at *; omega
theorem tailP_small : ∀ ys : List InstrD, (∀ y ∈ ys, instrB y = true) → (tailP ys).length ≤ 14 * ys.length := by
  intro ys
  induction ys with
  | nil => intro _; simp [tailP]
  | cons y ys ih =>
    intro h
    have h1 := instrL_len (h y (by simp))
    have h2 := ih (fun z hz => h z (by simp [hz]))
    rw [tailP_cons]; simp; omega
theorem textP_small {l : List InstrD} (h : OkP l) : (textP l).length ≤ 278 := by
  obtain ⟨h0, h20, hall⟩ := h.parts
  cases l with
  | nil => exact absurd rfl h0
  | cons x xs =>
    have h1 := instrL_len (hall x (by simp))
    have h2 := tailP_small xs (fun z hz => hall z (by simp [hz]))
    rw [textP_cons, List.length_append]
    simp at h20; omega
end Go.Proofs.YtdapgihghbmlfaaGreatDoor
