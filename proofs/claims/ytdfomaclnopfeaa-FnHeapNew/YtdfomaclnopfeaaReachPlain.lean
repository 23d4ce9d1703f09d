/- Who is reached from some: plain facts, no memory. -/
import Derived.Test.YtdfomaclnopfeaaGraphIds
import Derived.Test.YtdfomaclnopfeaaEdgesPlain
namespace Go.Proofs.Ytdfomaclnopfeaa
theorem hasB_iff : ∀ (xs : List Int) (k : Int), hasB xs k = true ↔ k ∈ xs := by
  intro xs k
  induction xs with
  | nil => simp [hasB]
  | cons x xs ih =>
    simp only [hasB, Bool.or_eq_true, decide_eq_true_eq, List.mem_cons, ih]
    constructor
    · rintro (e | e)
      · exact Or.inl e.symm
      · exact Or.inr e
    · rintro (e | e)
      · exact Or.inl e.symm
      · exact Or.inr e
/-- one more in a list that rises -/
def insR : List Int → Int → List Int
  | [], k => [k]
  | x :: xs, k => if x < k then x :: insR xs k else k :: x :: xs
theorem insR_mem : ∀ (xs : List Int) (k y : Int), y ∈ insR xs k ↔ y = k ∨ y ∈ xs := by
  intro xs k y
  induction xs with
  | nil => simp [insR]
  | cons x xs ih =>
    unfold insR
    split
    · simp only [List.mem_cons, ih]
      constructor
      · rintro (e | e | e)
        · exact Or.inr (Or.inl e)
        · exact Or.inl e
        · exact Or.inr (Or.inr e)
      · rintro (e | e | e)
        · exact Or.inr (Or.inl e)
        · exact Or.inl e
        · exact Or.inr (Or.inr e)
    · simp only [List.mem_cons]
theorem insR_len : ∀ (xs : List Int) (k : Int), (insR xs k).length = xs.length + 1 := by
  intro xs k
  induction xs with
  | nil => rfl
  | cons x xs ih =>
    unfold insR
    split
    · simp [ih]
    · simp
def Rises (xs : List Int) : Prop := xs.Pairwise (fun a b => a < b)
theorem insR_rises : ∀ (xs : List Int) (k : Int), Rises xs → k ∉ xs → Rises (insR xs k) := by
  intro xs k
  induction xs with
  | nil => intro _ _; simp [insR, Rises]
  | cons x xs ih =>
    intro h hk
    obtain ⟨h1, h2⟩ := List.pairwise_cons.1 h
    unfold insR
    split
    · rename_i hlt
      refine List.pairwise_cons.2 ⟨fun y hy => ?_, ih h2 (fun q => hk (List.mem_cons_of_mem _ q))⟩
      rcases (insR_mem xs k y).1 hy with e | e
      · omega
      · exact h1 y e
    · rename_i hlt
      have hne : k ≠ x := fun q => hk (by rw [q]; exact List.mem_cons_self)
      refine List.pairwise_cons.2 ⟨fun y hy => ?_, h⟩
      rcases List.mem_cons.1 hy with e | e
      · omega
      · have := h1 y e; omega
theorem insR_split : ∀ (xs : List Int) (k : Int) (j : Nat), j ≤ xs.length → (∀ i, (hi : i < xs.length) → i < j → xs[i] < k) → (∀ (hj : j < xs.length), ¬ xs[j] < k) → insR xs k = xs.take j ++ [k] ++ xs.drop j := by
  intro xs k
  induction xs with
  | nil => intro j hj _ _; simp at hj; subst hj; rfl
  | cons x xs ih =>
    intro j hj h1 h2
    cases j with
    | zero =>
      have := h2 (by simp)
      simp only [List.getElem_cons_zero] at this
      simp [insR, this]
    | succ j =>
      have hx := h1 0 (by simp) (by omega)
      simp only [List.getElem_cons_zero] at hx
      have := ih j (by simpa using hj) (fun i hi hij => by have := h1 (i + 1) (by simpa using hi) (by omega); simpa using this) (fun hj' => by have := h2 (by simpa using hj'); simpa using this)
      simp only [insR, if_pos hx, this, List.take_succ_cons, List.drop_succ_cons, List.cons_append]
/-- lists that rise and have the same are the same -/
theorem rises_same : ∀ (xs ys : List Int), Rises xs → Rises ys → (∀ k, k ∈ xs ↔ k ∈ ys) → xs = ys := by
  intro xs
  induction xs with
  | nil =>
    intro ys _ _ h
    cases ys with
    | nil => rfl
    | cons y ys => have := (h y).2 List.mem_cons_self; cases this
  | cons x xs ih =>
    intro ys hx hy h
    cases ys with
    | nil => have := (h x).1 List.mem_cons_self; cases this
    | cons y ys =>
      obtain ⟨x1, x2⟩ := List.pairwise_cons.1 hx
      obtain ⟨y1, y2⟩ := List.pairwise_cons.1 hy
      have e : x = y := by
        rcases List.mem_cons.1 ((h x).1 List.mem_cons_self) with q | q
        · exact q
        · rcases List.mem_cons.1 ((h y).2 List.mem_cons_self) with r | r
          · exact r.symm
          · have a := y1 x q
            have b := x1 y r
            omega
      subst e
      rw [ih ys x2 y2 fun k => ?_]
      constructor
      · intro q
        rcases List.mem_cons.1 ((h k).1 (List.mem_cons_of_mem _ q)) with r | r
        · have := x1 k q; omega
        · exact r
      · intro q
        rcases List.mem_cons.1 ((h k).2 (List.mem_cons_of_mem _ q)) with r | r
        · have := y1 k q; omega
        · exact r
theorem nodup_len : ∀ (xs ys : List Int), xs.Nodup → (∀ k ∈ xs, k ∈ ys) → xs.length ≤ ys.length := by
  intro xs
  induction xs with
  | nil => intro ys _ _; simp
  | cons x xs ih =>
    intro ys h hs
    obtain ⟨h1, h2⟩ := List.nodup_cons.1 h
    have hx : x ∈ ys := hs x List.mem_cons_self
    have := ih (ys.erase x) h2 fun k hk => (List.mem_erase_of_ne (fun q : k = x => h1 (by rw [← q]; exact hk))).2 (hs k (List.mem_cons_of_mem _ hk))
    rw [List.length_erase_of_mem hx] at this
    have : 0 < ys.length := List.length_pos_of_mem hx
    simp only [List.length_cons]
    omega
/-! ### reached -/
def RTn (E : Int → List Int) : Nat → Int → Int → Prop
  | 0, x, z => x = z
  | n + 1, x, z => ∃ y, y ∈ E x ∧ RTn E n y z
def RT (E : Int → List Int) (x z : Int) : Prop := ∃ n, RTn E n x z
theorem RT.refl (E : Int → List Int) (x : Int) : RT E x x := ⟨0, rfl⟩
theorem RT.head {E : Int → List Int} {x y z : Int} (h : y ∈ E x) (k : RT E y z) : RT E x z := by
  obtain ⟨n, hn⟩ := k
  exact ⟨n + 1, y, h, hn⟩
theorem RTn.snoc {E : Int → List Int} : ∀ (n : Nat) {x y z : Int}, RTn E n x y → z ∈ E y → RTn E (n + 1) x z := by
  intro n
  induction n with
  | zero => intro x y z h k; cases h; exact ⟨z, k, rfl⟩
  | succ n ih =>
    intro x y z h k
    obtain ⟨u, h1, h2⟩ := h
    exact ⟨u, h1, ih h2 k⟩
theorem RT.snoc {E : Int → List Int} {x y z : Int} (h : RT E x y) (k : z ∈ E y) : RT E x z := by
  obtain ⟨n, hn⟩ := h
  exact ⟨n + 1, hn.snoc n k⟩
theorem RT.trans {E : Int → List Int} {x y z : Int} (h : RT E x y) (k : RT E y z) : RT E x z := by
  obtain ⟨n, hn⟩ := k
  induction n generalizing y with
  | zero => cases hn; exact h
  | succ n ih =>
    obtain ⟨u, h1, h2⟩ := hn
    exact ih (h.snoc h1) h2
def From (E : Int → List Int) (fs : List Int) (z : Int) : Prop := ∃ x, x ∈ fs ∧ RT E x z
/-- closed under what is held, and from these: just what is reached -/
theorem from_closed {E : Int → List Int} {fs xs : List Int} (h1 : ∀ x ∈ fs, x ∈ xs) (h2 : ∀ x ∈ xs, ∀ y ∈ E x, y ∈ xs) : ∀ z, From E fs z → z ∈ xs := by
  rintro z ⟨x, hx, n, hn⟩
  have := h1 x hx
  clear hx h1
  induction n generalizing x with
  | zero => cases hn; exact this
  | succ n ih =>
    obtain ⟨u, q1, q2⟩ := hn
    exact ih u q2 (h2 x this u q1)
/-- the specification's way -/
def bel (E : Int → List Int) : Nat → List Int → List Int → List Int
  | 0, out, _ => out
  | _ + 1, out, [] => out
  | n + 1, out, k :: work => if hasB out k = true then bel E n out work else bel E n (insR out k) (work ++ E k)
theorem bel_end (E : Int → List Int) (n : Nat) (out : List Int) : bel E n out [] = out := by cases n <;> rfl
theorem bel_skip {E : Int → List Int} {n : Nat} {out work : List Int} {k : Int} (h : hasB out k = true) : bel E (n + 1) out (k :: work) = bel E n out work := by simp [bel, h]
theorem bel_put {E : Int → List Int} {n : Nat} {out work : List Int} {k : Int} (h : hasB out k = false) : bel E (n + 1) out (k :: work) = bel E n (insR out k) (work ++ E k) := by simp [bel, h]
/-- how far it may be to the end -/
def room (N M : Nat) (out work : List Int) : Nat := (N - out.length) * (M + 1) + work.length
theorem room_skip {N M : Nat} {out work : List Int} {k : Int} : room N M out work < room N M out (k :: work) := by simp [room]
theorem room_put {N M : Nat} {out work es : List Int} {k : Int} (h1 : out.length < N) (h2 : es.length ≤ M) : room N M (insR out k) (work ++ es) < room N M out (k :: work) := by
  unfold room
  rw [insR_len, List.length_append, List.length_cons]
  have e : N - out.length = (N - (out.length + 1)) + 1 := by omega
  rw [e, Nat.add_mul, Nat.one_mul]
  omega
/-- what it knows on its way -/
def BelInv (E : Int → List Int) (ids fs out work : List Int) : Prop :=
  Rises out ∧ (∀ k ∈ out, k ∈ ids ∧ From E fs k ∧ ∀ y ∈ E k, y ∈ out ∨ y ∈ work) ∧ (∀ k ∈ work, k ∈ ids ∧ From E fs k) ∧ ∀ k ∈ fs, k ∈ out ∨ k ∈ work
theorem BelInv.start {E : Int → List Int} {ids fs : List Int} (h : ∀ k ∈ fs, k ∈ ids) : BelInv E ids fs [] fs :=
  ⟨List.Pairwise.nil, fun k hk => (by cases hk), fun k hk => ⟨h k hk, k, hk, RT.refl E k⟩, fun k hk => Or.inr hk⟩
theorem BelInv.skip {E : Int → List Int} {ids fs out work : List Int} {k : Int} (h : BelInv E ids fs out (k :: work)) (hk : hasB out k = true) : BelInv E ids fs out work := by
  have hk' := (hasB_iff out k).1 hk
  obtain ⟨h1, h2, h3, h4⟩ := h
  refine ⟨h1, fun x hx => ⟨(h2 x hx).1, (h2 x hx).2.1, fun y hy => ?_⟩, fun x hx => h3 x (List.mem_cons_of_mem _ hx), fun x hx => ?_⟩
  · rcases (h2 x hx).2.2 y hy with q | q
    · exact Or.inl q
    · rcases List.mem_cons.1 q with r | r
      · exact Or.inl (r ▸ hk')
      · exact Or.inr r
  · rcases h4 x hx with q | q
    · exact Or.inl q
    · rcases List.mem_cons.1 q with r | r
      · exact Or.inl (r ▸ hk')
      · exact Or.inr r
theorem BelInv.put {E : Int → List Int} {ids fs out work : List Int} {k : Int} (h : BelInv E ids fs out (k :: work)) (hE : ∀ x ∈ ids, ∀ y ∈ E x, y ∈ ids) (hk : hasB out k = false) : BelInv E ids fs (insR out k) (work ++ E k) := by
  have hk' : k ∉ out := fun q => by rw [(hasB_iff out k).2 q] at hk; cases hk
  obtain ⟨h1, h2, h3, h4⟩ := h
  obtain ⟨k1, k2⟩ := h3 k List.mem_cons_self
  refine ⟨insR_rises _ _ h1 hk', fun x hx => ?_, fun x hx => ?_, fun x hx => ?_⟩
  · rcases (insR_mem out k x).1 hx with e | e
    · subst e
      exact ⟨k1, k2, fun y hy => Or.inr (List.mem_append_right _ hy)⟩
    · refine ⟨(h2 x e).1, (h2 x e).2.1, fun y hy => ?_⟩
      rcases (h2 x e).2.2 y hy with q | q
      · exact Or.inl ((insR_mem out k y).2 (Or.inr q))
      · rcases List.mem_cons.1 q with r | r
        · exact Or.inl ((insR_mem out k y).2 (Or.inl r))
        · exact Or.inr (List.mem_append_left _ r)
  · rcases List.mem_append.1 hx with e | e
    · exact h3 x (List.mem_cons_of_mem _ e)
    · obtain ⟨u, hu, hr⟩ := k2
      exact ⟨hE k k1 x e, u, hu, hr.snoc e⟩
  · rcases h4 x hx with q | q
    · exact Or.inl ((insR_mem out k x).2 (Or.inr q))
    · rcases List.mem_cons.1 q with r | r
      · exact Or.inl ((insR_mem out k x).2 (Or.inl r))
      · exact Or.inr (List.mem_append_left _ r)
theorem BelInv.less {E : Int → List Int} {ids fs out work : List Int} {k : Int} (h : BelInv E ids fs out (k :: work)) (hk : hasB out k = false) : out.length < ids.length := by
  have hk' : k ∉ out := fun q => by rw [(hasB_iff out k).2 q] at hk; cases hk
  obtain ⟨h1, h2, h3, _⟩ := h
  have hnd : (k :: out).Nodup := List.nodup_cons.2 ⟨hk', lt_nodup h1⟩
  have := nodup_len (k :: out) ids hnd fun x hx => by
    rcases List.mem_cons.1 hx with e | e
    · exact e ▸ (h3 k List.mem_cons_self).1
    · exact (h2 x e).1
  simp only [List.length_cons] at this
  omega
theorem BelInv.done {E : Int → List Int} {ids fs out : List Int} (h : BelInv E ids fs out []) : Rises out ∧ ∀ k, k ∈ out ↔ From E fs k := by
  obtain ⟨h1, h2, _, h4⟩ := h
  refine ⟨h1, fun k => ⟨fun q => (h2 k q).2.1, fun q => ?_⟩⟩
  refine from_closed (E := E) (fs := fs) (fun x hx => ?_) (fun x hx y hy => ?_) k q
  · rcases h4 x hx with r | r
    · exact r
    · cases r
  · rcases (h2 x hx).2.2 y hy with r | r
    · exact r
    · cases r
/-- with fuel enough it comes to its end -/
theorem bel_is {E : Int → List Int} {ids fs : List Int} {M : Nat} (hE : ∀ x ∈ ids, ∀ y ∈ E x, y ∈ ids) (hM : ∀ x ∈ ids, (E x).length ≤ M) : ∀ (n : Nat) (out work : List Int), room ids.length M out work ≤ n → BelInv E ids fs out work → Rises (bel E n out work) ∧ ∀ k, k ∈ bel E n out work ↔ From E fs k := by
  intro n
  induction n with
  | zero =>
    intro out work hr hi
    have hw : work = [] := by
      unfold room at hr
      exact List.eq_nil_of_length_eq_zero (by omega)
    subst hw
    rw [bel_end]
    exact hi.done
  | succ n ih =>
    intro out work hr hi
    cases work with
    | nil => rw [bel_end]; exact hi.done
    | cons k work =>
      cases hk : hasB out k with
      | true =>
        rw [bel_skip hk]
        refine ih out work ?_ (hi.skip hk)
        have := room_skip (N := ids.length) (M := M) (out := out) (work := work) (k := k)
        omega
      | false =>
        rw [bel_put hk]
        refine ih _ _ ?_ (hi.put hE hk)
        have := room_put (work := work) (es := E k) (k := k) (hi.less hk) (hM k (hi.2.2.1 k List.mem_cons_self).1)
        omega
end Go.Proofs.Ytdfomaclnopfeaa
