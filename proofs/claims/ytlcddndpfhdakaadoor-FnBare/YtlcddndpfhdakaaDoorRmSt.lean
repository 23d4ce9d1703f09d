/- Kids of a mark that a reader reads: the row that grows meanwhile; where there is no mark. -/
import Derived.Test.YtlcddndpfhdakaaDoorRmAtt
namespace Go.Proofs.YtlcddndpfhdakaaDoor
open Go.RowKit Go.Deep
abbrev zM4 : List Value := [.string ⟨#[]⟩, .string ⟨#[]⟩, .slice none 0 0, .slice none 0 0]
def zeroM : MarkD := MarkD.mk ⟨#[]⟩ ⟨#[]⟩ [] []
/-- tag, attributes and kids in the block T, what is handed back in the block of w's size -/
def KmSt (n : Nat) (w : World) (g T base : Nat) (tag : ByteArray) (va : Value) (as0 : List AttrD) (fa : List Nat) (vk : Value) (xs : List MarkD) (wr : World) : Prop :=
  (∃ bss css, GrowOwn 27 4 (MarkOwn n) base wr vk xs bss css) ∧ Box wr T [.string tag, .string ⟨#[]⟩, va, vk] 27 ∧ Box wr w.heap.size zM4 27 ∧ w.grownBy wr (some g) ∧ base ≤ wr.heap.size ∧ g < w.heap.size ∧ w.heap.size < T ∧ T < base ∧ SeqOwn 2 AttrOwn wr va as0 fa ∧ fa.Nodup ∧ ∀ b ∈ fa, T < b ∧ b < base
theorem KmSt.grown {n : Nat} {w : World} {g T base : Nat} {tag : ByteArray} {va vk : Value} {as0 : List AttrD} {fa : List Nat} {xs : List MarkD} {wr w2 : World} (h : KmSt n w g T base tag va as0 fa vk xs wr) (hg : wr.grownBy w2 (some g)) : KmSt n w g T base tag va as0 fa vk xs w2 := by
  obtain ⟨⟨bss, css, h1⟩, h2, h4, h6, h7, h8, h9, h10, h11, h12, h13⟩ := h
  have s := hg.size
  exact ⟨⟨bss, css, h1.stay (MarkOwn_stays n) s (fun b q1 q2 => hg.block b q2 (fun e => by injection e; omega))⟩, box_grown h2 (by omega) hg, box_grown h4 (by omega) hg, h6.trans hg, by omega, h8, h9, h10, h11.stays AttrOwn_stays (fun b q => hg.block b (h11.lt AttrOwn_lt b q) (fun e => by injection e; have := h13 b q; omega)), h12, h13⟩
theorem KmSt.step {n : Nat} {w : World} {g T base n1 capn gg : Nat} {tag : ByteArray} {va vk : Value} {as0 : List AttrD} {fa : List Nat} {xs : List MarkD} {wr w1 w3 : World} {o : Obj} {x : MarkD} {cs : List Value} {fs : List Nat} {css : List (List Value)} {bss : List (List Nat)} (h : KmSt n w g T base tag va as0 fa vk xs wr) (hgr : GrowOwn 27 4 (MarkOwn n) base wr vk xs bss css) (hg1 : wr.grownBy w1 (some g))
    (hr : MarkOwn n w1 cs x fs) (hnd : fs.Nodup) (hlo : ∀ b ∈ fs, wr.heap.size ≤ b) (hcl : cs.length = 4) (hn1 : n1 = xs.length + 1) (hown : w3.ownsRow base 27 4 (.slice (some ⟨gg, 0, none⟩) n1 capn) n1 (css.flatten ++ cs)) (hgrow : (w1.alloc o).grownBy w3 vk.ownBlock) (hat : vk.ownBlock = some gg ∨ gg = (w1.alloc o).heap.size) :
    KmSt n w g T base tag va as0 fa (.slice (some ⟨gg, 0, none⟩) n1 capn) (xs ++ [x]) (w3.setCell ⟨T, 3, none⟩ (.slice (some ⟨gg, 0, none⟩) n1 capn)) ∧ (w3.setCell ⟨T, 3, none⟩ (.slice (some ⟨gg, 0, none⟩) n1 capn)).heap[g]? = w1.heap[g]? := by
  obtain ⟨_, h2, h4, h6, h7, h8, h9, h10, h11, h12, h13⟩ := h
  obtain ⟨q1, q2, q4, q5, q6⟩ := grow_fin2 (f := 3) (MarkOwn_stays n) hgr hg1 (by omega) (by omega) h7 hcl hr hnd hlo (MarkOwn_lt n _ _ _ _ hr) hn1 hown hgrow hat h2 h6 (by omega)
  exact ⟨⟨⟨_, _, q1⟩, q2, (q5 w.heap.size (by omega) (by omega)).trans (box_grown h4 (by omega) hg1), q4, q6, h8, h9, h10, h11.stays AttrOwn_stays (fun b q => (q5 b (h13 b q).2 (by have := h13 b q; omega)).trans (hg1.block b (h11.lt AttrOwn_lt b q) (fun e => by injection e; have := h13 b q; omega))), h12, h13⟩, q5 g (by omega) (by omega)⟩
theorem KmSt.step2 {n : Nat} {w : World} {g T base : Nat} {tag : ByteArray} {va vk vk' : Value} {as0 : List AttrD} {fa : List Nat} {xs ys : List MarkD} {w1 w2 w3 : World} {bss : List (List Nat)} {css : List (List Value)} (h : KmSt n w g T base tag va as0 fa vk xs w1) (hb2 : Below w1.heap.size w1 w2) (hgr3 : GrowOwn 27 4 (MarkOwn n) base w3 vk' ys bss css) (hgrow : w2.grownBy w3 vk.ownBlock) :
    KmSt n w g T base tag va as0 fa vk' ys (w3.setCell ⟨T, 3, none⟩ vk') ∧ (w3.setCell ⟨T, 3, none⟩ vk').heap[g]? = w1.heap[g]? := by
  obtain ⟨⟨bss0, css0, h1⟩, h2, h4, h6, h7, h8, h9, h10, h11, h12, h13⟩ := h
  have hvb := own_ge h1
  have s2 := hb2.size
  have s3 := hgrow.size
  have s6 := h6.size
  have low : ∀ b, b < base → w3.heap[b]? = w1.heap[b]? := fun b hb => (hgrow.block b (by omega) (fun e => by have := hvb b e.symm; omega)).trans (hb2.block b (by omega))
  refine ⟨⟨⟨bss, css, GrowOwn.set (MarkOwn_stays n) hgr3 h10⟩, Box.set (i := 3) ((low T h10).trans h2) _, Box.other ((low _ (by omega)).trans h4) (by omega) _, ?_, by rw [set_size]; omega, h8, h9, h10, h11.stays AttrOwn_stays (fun b q => (set_other (by have := h13 b q; omega) _).trans (low b (h13 b q).2)), h12, h13⟩, (set_other (by omega) _).trans (low g (by omega))⟩
  refine ⟨hgrow.os.trans (hb2.os.trans h6.os), hgrow.tape.trans (hb2.tape.trans h6.tape), hgrow.output.trans (hb2.output.trans h6.output), by rw [set_size]; omega, fun b hb hne => ?_⟩
  rw [set_other (by omega), low b (by omega), h6.block b hb hne]
theorem KmSt.done {n : Nat} {w : World} {g T base : Nat} {tag : ByteArray} {va vk : Value} {as0 : List AttrD} {fa : List Nat} {xs : List MarkD} {wr w' : World} (h : KmSt n w g T base tag va as0 fa vk xs wr) (ht : tag.size ≤ maxLen) (hk : ∀ b, b ≠ w.heap.size → w'.heap[b]? = wr.heap[b]?) (hs : wr.heap.size ≤ w'.heap.size) (ho : w'.os = wr.os ∧ w'.tape = wr.tape ∧ w'.output = wr.output) :
    ∃ fs : List Nat, MarkOwn (n + 1) w' [.string tag, .string ⟨#[]⟩, va, vk] (MarkD.mk tag ⟨#[]⟩ as0 xs) fs ∧ fs.Nodup ∧ (∀ b ∈ fs, w.heap.size + 1 ≤ b) ∧ w.grownBy w' (some g) := by
  obtain ⟨⟨bss, css, h1⟩, h2, h4, h6, h7, h8, h9, h10, h11, h12, h13⟩ := h
  obtain ⟨f3, q3, q3b⟩ := h1.done
  refine ⟨fa ++ f3, ⟨va, vk, fa, f3, by rw [MarkD.mk_tag, MarkD.mk_text], ?_, ?_, by rw [MarkD.mk_tag]; exact ht, by rw [MarkD.mk_text]; exact Nat.zero_le _, rfl⟩, ?_, fun b q => ?_, ?_⟩
  · rw [MarkD.mk_attrs]; exact h11.stays AttrOwn_stays (fun b q => hk b (by have := h13 b q; omega))
  · rw [MarkD.mk_kids]; exact q3.stays (MarkOwn_stays n) (fun b q => hk b (by have := q3b b q; omega))
  · exact nodup_two (q := base) h12 q3.nodup (fun b q => (h13 b q).2) q3b
  · rcases List.mem_append.1 q with e | e
    · have := h13 b e; omega
    · have := q3b b e; omega
  · exact ⟨ho.1.trans h6.os, ho.2.1.trans h6.tape, ho.2.2.trans h6.output, Nat.le_trans h6.size hs, fun b hb hne => (hk b (by omega)).trans (h6.block b hb hne)⟩
theorem putCells_grown {w w' : World} {g b o : Nat} {vs : List Value} (hb : w.heap.size ≤ b) (h : w.grownBy w' (some g)) : w.grownBy (putCells w' b o vs) (some g) := by
  induction vs generalizing w' o with
  | nil => exact h
  | cons v vs ih => exact ih (grown_new hb h)
/-! ### levels -/
theorem CanM.up : ∀ (n : Nat) (x : MarkD), CanM n x → CanM (n + 1) x := by
  intro n
  induction n with
  | zero => intro x h; exact h.elim
  | succ n ih => intro x h; exact ⟨h.1, fun k hk => ih k (h.2 k hk)⟩
theorem CanM.mono {n m : Nat} (h : n ≤ m) {x : MarkD} (q : CanM n x) : CanM m x := by
  induction h with
  | refl => exact q
  | step _ ih => exact CanM.up _ _ ih
theorem catK_congr {α : Type} {f g : α → List UInt8} : ∀ ks : List α, (∀ k ∈ ks, f k = g k) → catK f ks = catK g ks := by
  intro ks
  induction ks with
  | nil => intro _; rfl
  | cons k ks ih => intro h; simp only [catK]; rw [h k (by simp), ih (fun k hk => h k (List.mem_cons_of_mem _ hk))]
theorem mtD_up : ∀ (n : Nat) (x : MarkD), CanM n x → mtD (n + 1) x = mtD n x := by
  intro n
  induction n with
  | zero => intro x h; exact h.elim
  | succ n ih =>
    intro x h
    cases ht : isT x with
    | true => rw [mtD_text ht, mtD_text ht]
    | false => rw [mtD_tag ht, mtD_tag ht, catK_congr _ (fun k hk => ih k (h.2 k hk))]
theorem mtD_mono {n m : Nat} (h : n ≤ m) {x : MarkD} (q : CanM n x) : mtD m x = mtD n x := by
  induction h with
  | refl => rfl
  | step h ih => rw [mtD_up _ _ (CanM.mono h q), ih]
theorem MarkOwn_more : ∀ (n : Nat) (w : World) (cs : List Value) (x : MarkD) (fs : List Nat), MarkOwn n w cs x fs → MarkOwn (n + 1) w cs x fs := by
  intro n
  induction n with
  | zero => intro w cs x fs h; exact h.elim
  | succ n ih =>
    intro w cs x fs h
    obtain ⟨k2, k3, f2, f3, e, h2, h3, r1, r2, rfl⟩ := h
    refine ⟨k2, k3, f2, f3, e, h2, ?_, r1, r2, rfl⟩
    obtain ⟨a, cap, e1, e2, h4⟩ := h3
    refine ⟨a, cap, e1, e2, ?_⟩
    rcases h4 with h4 | ⟨b, off, e3, C, T, bss, c1, c2, c3, c4, c5, c6⟩
    · exact Or.inl h4
    · exact Or.inr ⟨b, off, e3, C, T, bss, c1, c2, c3, c4, c5, fun i hi hi' => by obtain ⟨cs, d1, d2, d3⟩ := c6 i hi hi'; exact ⟨cs, d1, d2, ih _ _ _ _ d3⟩⟩
theorem MarkOwn_mono {n m : Nat} (h : n ≤ m) {w : World} {cs : List Value} {x : MarkD} {fs : List Nat} (q : MarkOwn n w cs x fs) : MarkOwn m w cs x fs := by
  induction h with
  | refl => exact q
  | step _ ih => exact MarkOwn_more _ _ _ _ _ ih
theorem MarkOwn.form4 {n : Nat} {w : World} {cs : List Value} {x : MarkD} {fs : List Nat} (h : MarkOwn n w cs x fs) : ∃ (t u : ByteArray) (a2 : Option Addr) (l2 c2 : Nat) (a3 : Option Addr) (l3 c3 : Nat), cs = [.string t, .string u, .slice a2 l2 c2, .slice a3 l3 c3] := by
  cases n with
  | zero => exact h.elim
  | succ n =>
    obtain ⟨k2, k3, f2, f3, e, h2, h3, _⟩ := h
    obtain ⟨y1, y2, y3⟩ := h2.form
    obtain ⟨z1, z2, z3⟩ := h3.form
    exact ⟨_, _, y1, _, y2, z1, _, z2, by rw [e, y3, z3]⟩
/-! ### where there is no mark -/
theorem md_text {m : Nat} {y : MarkD} {d : Nat} {l r : List UInt8} (h : Md m y d l r) (hp : preP [60] l = false) : ∃ t : ByteArray, y = MarkD.mk ⟨#[]⟩ t [] [] ∧ d = 1 ∧ upto 60 l = escL t.data.toList ∧ l = escL t.data.toList ++ r ∧ l ≠ [] := by
  cases m with
  | zero => exact h.elim
  | succ m =>
    rcases h with ⟨t, h1, h2, h3, h4, _, h6⟩ | ⟨s, as0, ks, m', c', _, _, _, _, h5, _⟩
    · exact ⟨t, h1, h2, by rw [h3]; exact upto_of (fun c hc => (esc_no c hc).1) h6, h3, h4⟩
    · have hp' : preP [60] l = true := by rw [h5]; exact preP_of (p := [60]) (r := _) rfl
      rw [hp'] at hp; cases hp
theorem att_head (as0 : List AttrD) (m : List UInt8) : ∀ c z, catK attT as0 ++ 62 :: m = c :: z → letB (c.toNat : Int) = false := by
  intro c z h
  cases as0 with
  | nil => simp [catK] at h; rw [← h.1]; exact let62
  | cons a as0 => simp [catK, attT] at h; rw [← h.1]; decide
/-- whatever mark there is: its tag, its attributes, where its kids begin -/
theorem md_elem {m : Nat} {y : MarkD} {d : Nat} {l l1 r : List UInt8} (h : Md m y d l r) (hl : l = 60 :: l1) : ∃ (s : ByteArray) (as0 : List AttrD) (ks : List MarkD) (m0 : List UInt8) (d' m' : Nat), y = MarkD.mk s ⟨#[]⟩ as0 ks ∧ nmB s = true ∧ lw l1 = s.data.toList ∧ rdAs (l1.drop s.size) = some (as0, 62 :: m0) ∧ d = d' + 1 ∧ m = m' + 1 ∧ MdK (Md m') ks d' m0 (60 :: 47 :: (s.data.toList ++ 62 :: r)) := by
  cases m with
  | zero => exact h.elim
  | succ m =>
    rcases h with ⟨t, _, _, _, _, hp, _⟩ | ⟨s, as0, ks, m0, d', h1, h2, h3, h4, h5, h6⟩
    · have : preP [60] l = true := by rw [hl]; exact preP_of (p := [60]) (r := _) rfl
      rw [this] at hp; cases hp
    · rw [hl] at h5
      simp only [List.cons.injEq, true_and] at h5
      have e1 : lw l1 = s.data.toList := by rw [h5]; exact lw_of (name_lets h2) (att_head as0 m0)
      have e2 : l1.drop s.size = catK attT as0 ++ 62 :: m0 := by rw [h5, ← bd_len]; simp
      refine ⟨s, as0, ks, m0, d', m, h1, h2, e1, ?_, h4, rfl, h6⟩
      rw [e2]
      unfold rdAs
      have := rdAtts_of (r := 62 :: m0) (by show ([62] == [32]) = false; decide) as0 ((catK attT as0 ++ 62 :: m0).length + 1) [] h3 (by have := catK_attT_len as0; simp; omega)
      simpa using this
/-- kids so far are the first ones of whatever mark there is -/
def RestM (n : Nat) (c1 : Nat) (xs : List MarkD) (s : ByteArray) (p0 q : Nat) : Prop := ∀ m ks d z, MdK (Md m) ks d (rest s p0) (60 :: 47 :: z) → d ≤ n → ∃ re d2, ks = xs ++ re ∧ d = c1 + d2 ∧ MdK (Md m) re d2 (rest s q) (60 :: 47 :: z)
theorem RestM.more {n c1 ck j : Nat} {xs : List MarkD} {s : ByteArray} {p0 q q' : Nat} {x : MarkD} (h : RestM n c1 xs s p0 q) (hj : c1 + j = n) (hp : preP [60, 47] (rest s q) = false) (hk : ∀ m y d r, Md m y d (rest s q) r → d ≤ j → x = y ∧ ck = d ∧ rest s q' = r) : RestM n (c1 + ck) (xs ++ [x]) s p0 q' := by
  intro m ks d z hg hd
  obtain ⟨re, d2, e1, e2, e3⟩ := h m ks d z hg hd
  cases re with
  | nil => exact (preP_no hp _ e3.2).elim
  | cons k re =>
    obtain ⟨b1, b2, m', f1, f2, f3⟩ := e3
    obtain ⟨rfl, rfl, rfl⟩ := hk _ _ _ _ f2 (by omega)
    exact ⟨re, b2, by rw [e1]; simp, by omega, f3⟩
/-- whatever mark there is has this tag, these attributes, and its kids from p0 on -/
def InM (tag : ByteArray) (as0 : List AttrD) (s : ByteArray) (p p0 : Nat) : Prop := ∀ m y d r, Md m y d (rest s p) r → ∃ ks d' m', y = MarkD.mk tag ⟨#[]⟩ as0 ks ∧ d = d' + 1 ∧ MdK (Md m') ks d' (rest s p0) (60 :: 47 :: (tag.data.toList ++ 62 :: r))
theorem no_kidM {n c1 j : Nat} {tag s : ByteArray} {as0 : List AttrD} {p p0 q : Nat} {xs : List MarkD} (hi : InM tag as0 s p p0) (hr : RestM n c1 xs s p0 q) (hj : c1 + j = n) (hp : preP [60, 47] (rest s q) = false) (hk : ∀ m y d r, Md m y d (rest s q) r → ¬ d ≤ j) : ∀ m y d r, Md m y d (rest s p) r → ¬ d ≤ n + 1 := by
  intro m y d r g hd
  obtain ⟨ks, d', m', _, e2, e3⟩ := hi m y d r g
  obtain ⟨re, d2, f1, f2, f3⟩ := hr _ _ _ _ e3 (by omega)
  cases re with
  | nil => exact preP_no hp _ f3.2
  | cons k re => obtain ⟨b1, b2, m'', b3, f3, _⟩ := f3; exact hk _ _ _ _ f3 (by omega)
theorem doneM {n c1 : Nat} {tag s : ByteArray} {as0 : List AttrD} {p p0 q : Nat} {xs : List MarkD} (hi : InM tag as0 s p p0) (hr : RestM n c1 xs s p0 q) (hq : rest s q = 60 :: 47 :: rest s (q + 2)) : ∀ m y d r, Md m y d (rest s p) r → d ≤ n + 1 → MarkD.mk tag ⟨#[]⟩ as0 xs = y ∧ d = c1 + 1 ∧ rest s (q + 2) = tag.data.toList ++ 62 :: r := by
  intro m y d r g hd
  obtain ⟨ks, d', m', e1, e2, e3⟩ := hi m y d r g
  obtain ⟨re, d2, f1, f2, f3⟩ := hr _ _ _ _ e3 (by omega)
  rw [hq] at f3
  obtain ⟨rfl, rfl, z3⟩ := Md.stop f3
  exact ⟨by rw [e1, f1]; simp, by omega, z3⟩
end Go.Proofs.YtlcddndpfhdakaaDoor
