/- Who is reached from some: plain facts, no memory. -/
import Derived.Test.YtnonfehmbabfhaaGreatGraphIds
import Derived.Test.YtnonfehmbabfhaaGreatEdges
import Derived.Test.YtnonfehmbabfhaaGreatAppendRows
namespace Go.Proofs.YtnonfehmbabfhaaGreat
theorem hasB_iff : ∀ (xs : List Int) (k : Int), hasB xs k = true ↔ k ∈ xs := by
  intro xs k
  induction xs with
  | nil => simp [hasB]
  | cons x xs ih =>
    simp only [hasB, Bool.or_eq_true, decide_eq_true_eq, List.mem_cons, ih]
    constructor
    · rintro (e | e)
      · exact Or.inl e.symm
      · exact Or.inr e
    · rintro (e | e)
      · exact Or.inl e.symm
      · exact Or.inr e
/-- one more in a list that rises -/
def insR : List Int → Int → List Int
  | [], k => [k]
  | x :: xs, k => if x < k then x :: insR xs k else k :: x :: xs
theorem insR_mem : ∀ (xs : List Int) (k y : Int), y ∈ insR xs k ↔ y = k ∨ y ∈ xs := by
  intro xs k y
  induction xs with
  | nil => simp [insR]
  | cons x xs ih =>
    unfold insR
    split
    · simp only [List.mem_cons, ih]
      constructor
      · rintro (e | e | e)
        · exact Or.inr (Or.inl e)
        · exact Or.inl e
        · exact Or.inr (Or.inr e)
      · rintro (e | e | e)
        · exact Or.inr (Or.inl e)
        · exact Or.inl e
        · exact Or.inr (Or.inr e)
    · simp only [List.mem_cons]
theorem insR_len : ∀ (xs : List Int) (k : Int), (insR xs k).length = xs.length + 1 := by
  intro xs k
  induction xs with
  | nil => rfl
  | cons x xs ih =>
    unfold insR
    split
    · simp [ih]
    · simp
def Rises (xs : List Int) : Prop := xs.Pairwise (fun a b => a < b)
theorem insR_rises : ∀ (xs : List Int) (k : Int), Rises xs → k ∉ xs → Rises (insR xs k) := by
  intro xs k
  induction xs with
  | nil => intro _ _; simp [insR, Rises]
  | cons x xs ih =>
    intro h hk
    obtain ⟨h1, h2⟩ := List.pairwise_cons.1 h
    unfold insR
    split
    · rename_i hlt
      refine List.pairwise_cons.2 ⟨fun y hy => ?_, ih h2 (fun q => hk (List.mem_cons_of_mem _ q))⟩
      rcases (insR_mem xs k y).1 hy with e | e
      · omega
      · exact h1 y e
    · rename_i hlt
      have hne : k ≠ x := fun q => hk (by rw [q]; exact List.mem_cons_self)
      refine List.pairwise_cons.2 ⟨fun y hy => ?_, h⟩
      rcases List.mem_cons.1 hy with e | e
      · omega
      · have := h1 y e; omega
theorem insR_split : ∀ (xs : List Int) (k : Int) (j : Nat), j ≤ xs.length → (∀ i, (hi : i < xs.length) → i < j → xs[i] < k) → (∀ (hj : j < xs.length), ¬ xs[j] < k) → insR xs k = xs.take j ++ [k] ++ xs.drop j := by
  intro xs k
  induction xs with
  | nil => intro j hj _ _; simp at hj; subst hj; rfl
  | cons x xs ih =>
    intro j hj h1 h2
    cases j with
    | zero =>
      have := h2 (by simp)
      simp only [List.getElem_cons_zero] at this
      simp [insR, this]
    | succ j =>
      have hx := h1 0 (by simp) (by omega)
      simp only [List.getElem_cons_zero] at hx
      have := ih j (by simpa using hj) (fun i hi hij => by have := h1 (i + 1) (by simpa using hi) (by omega); simpa using this) (fun hj' => by have := h2 (by simpa using hj'); simpa using this)
      simp only [insR, if_pos hx, this, List.take_succ_cons, List.drop_succ_cons, List.cons_append]
/-- lists that rise and have the same are the same -/
theorem rises_same : ∀ (xs ys : List Int), Rises xs → Rises ys → (∀ k, k ∈ xs ↔ k ∈ ys) → xs = ys := by
  intro xs
  induction xs with
  | nil =>
    intro ys _ _ h
    cases ys with
    | nil => rfl
    | cons y ys => have := (h y).2 List.mem_cons_self; cases this
  | cons x xs ih =>
    intro ys hx hy h
    cases ys with
    | nil => have := (h x).1 List.mem_cons_self; cases this
    | cons y ys =>
      obtain ⟨x1, x2⟩ := List.pairwise_cons.1 hx
      obtain ⟨y1, y2⟩ := List.pairwise_cons.1 hy
      have e : x = y := by
        rcases List.mem_cons.1 ((h x).1 List.mem_cons_self) with q | q
        · exact q
        · rcases List.mem_cons.1 ((h y).2 List.mem_cons_self) with r | r
          · exact r.symm
          · have a := y1 x q
            have b := x1 y r
            omega
      subst e
      rw [ih ys x2 y2 fun k => ?_]
      constructor
      · intro q
        rcases List.mem_cons.1 ((h k).1 (List.mem_cons_of_mem _ q)) with r | r
        · have := x1 k q; omega
        · exact r
      · intro q
        rcases List.mem_cons.1 ((h k).2 (List.mem_cons_of_mem _ q)) with r | r
        · have := y1 k q; omega
        · exact r
theorem nodup_len : ∀ (xs ys : List Int), xs.Nodup → (∀ k ∈ xs, k ∈ ys) → xs.length ≤ ys.length := by
  intro xs
  induction xs with
  | nil => intro ys _ _; simp
  | cons x xs ih =>
    intro ys h hs
    obtain ⟨h1, h2⟩ := List.nodup_cons.1 h
    have hx : x ∈ ys := hs x List.mem_cons_self
    have := ih (ys.erase x) h2 fun k hk => (List.mem_erase_of_ne (fun q : k = x => h1 (by rw [← q]; exact hk))).2 (hs k (List.mem_cons_of_mem _ hk))
    rw [List.length_erase_of_mem hx] at this
    have : 0 < ys.length := List.length_pos_of_mem hx
    simp only [List.length_cons]
    omega
/-! ### reached -/
def RTn (E : Int → List Int) : Nat → Int → Int → Prop
  | 0, x, z => x = z
  | n + 1, x, z => ∃ y, y ∈ E x ∧ RTn E n y z
def RT (E : Int → List Int) (x z : Int) : Prop := ∃ n, RTn E n x z
theorem RT.refl (E : Int → List Int) (x : Int) : RT E x x := ⟨0, rfl⟩
theorem RT.head {E : Int → List Int} {x y z : Int} (h : y ∈ E x) (k : RT E y z) : RT E x z := by
  obtain ⟨n, hn⟩ := k
  exact ⟨n + 1, y, h, hn⟩
theorem RTn.snoc {E : Int → List Int} : ∀ (n : Nat) {x y z : Int}, RTn E n x y → z ∈ E y → RTn E (n + 1) x z := by
  intro n
  induction n with
  | zero => intro x y z h k; cases h; exact ⟨z, k, rfl⟩
  | succ n ih =>
    intro x y z h k
    obtain ⟨u, h1, h2⟩ := h
    exact ⟨u, h1, ih h2 k⟩
theorem RT.snoc {E : Int → List Int} {x y z : Int} (h : RT E x y) (k : z ∈ E y) : RT E x z := by
  obtain ⟨n, hn⟩ := h
  exact ⟨n + 1, hn.snoc n k⟩
theorem RT.trans {E : Int → List Int} {x y z : Int} (h : RT E x y) (k : RT E y z) : RT E x z := by
  obtain ⟨n, hn⟩ := k
  induction n generalizing y with
  | zero => cases hn; exact h
  | succ n ih =>
    obtain ⟨u, h1, h2⟩ := hn
    exact ih (h.snoc h1) h2
def From (E : Int → List Int) (fs : List Int) (z : Int) : Prop := ∃ x, x ∈ fs ∧ RT E x z
/-- closed under what is held, and from these: just what is reached -/
theorem from_closed {E : Int → List Int} {fs xs : List Int} (h1 : ∀ x ∈ fs, x ∈ xs) (h2 : ∀ x ∈ xs, ∀ y ∈ E x, y ∈ xs) : ∀ z, From E fs z → z ∈ xs := by
  rintro z ⟨x, hx, n, hn⟩
  have := h1 x hx
  clear hx h1
  induction n generalizing x with
  | zero => cases hn; exact this
  | succ n ih =>
    obtain ⟨u, q1, q2⟩ := hn
    exact ih u q2 (h2 x this u q1)
/-- the specification's way -/
def bel (E : Int → List Int) : Nat → List Int → List Int → List Int
  | 0, out, _ => out
  | _ + 1, out, [] => out
  | n + 1, out, k :: work => if hasB out k = true then bel E n out work else bel E n (insR out k) (work ++ E k)
theorem bel_end (E : Int → List Int) (n : Nat) (out : List Int) : bel E n out [] = out := by cases n <;> rfl
theorem bel_skip {E : Int → List Int} {n : Nat} {out work : List Int} {k : Int} (h : hasB out k = true) : bel E (n + 1) out (k :: work) = bel E n out work := by simp [bel, h]
theorem bel_put {E : Int → List Int} {n : Nat} {out work : List Int} {k : Int} (h : hasB out k = false) : bel E (n + 1) out (k :: work) = bel E n (insR out k) (work ++ E k) := by simp [bel, h]
/-- how far it may be to the end -/
def room (N M : Nat) (out work : List Int) : Nat := (N - out.length) * (M + 1) + work.length
theorem room_skip {N M : Nat} {out work : List Int} {k : Int} : room N M out work < room N M out (k :: work) := by simp [room]
theorem room_put {N M : Nat} {out work es : List Int} {k : Int} (h1 : out.length < N) (h2 : es.length ≤ M) : room N M (insR out k) (work ++ es) < room N M out (k :: work) := by
  unfold room
  rw [insR_len, List.length_append, List.length_cons]
  have e : N - out.length = (N - (out.length + 1)) + 1 := by omega
  rw [e, Nat.add_mul, Nat.one_mul]
  omega
/-- what it knows on its way -/
def BelInv (E : Int → List Int) (ids fs out work : List Int) : Prop :=
  Rises out ∧ (∀ k ∈ out, k ∈ ids ∧ From E fs k ∧ ∀ y ∈ E k, y ∈ out ∨ y ∈ work) ∧ (∀ k ∈ work, k ∈ ids ∧ From E fs k) ∧ ∀ k ∈ fs, k ∈ out ∨ k ∈ work
theorem BelInv.start {E : Int → List Int} {ids fs : List Int} (h : ∀ k ∈ fs, k ∈ ids) : BelInv E ids fs [] fs :=
  ⟨List.Pairwise.nil, fun k hk => (by cases hk), fun k hk => ⟨h k hk, k, hk, RT.refl E k⟩, fun k hk => Or.inr hk⟩
theorem BelInv.skip {E : Int → List Int} {ids fs out work : List Int} {k : Int} (h : BelInv E ids fs out (k :: work)) (hk : hasB out k = true) : BelInv E ids fs out work := by
  have hk' := (hasB_iff out k).1 hk
  obtain ⟨h1, h2, h3, h4⟩ := h
  refine ⟨h1, fun x hx => ⟨(h2 x hx).1, (h2 x hx).2.1, fun y hy => ?_⟩, fun x hx => h3 x (List.mem_cons_of_mem _ hx), fun x hx => ?_⟩
  · rcases (h2 x hx).2.2 y hy with q | q
    · exact Or.inl q
    · rcases List.mem_cons.1 q with r | r
      · exact Or.inl (r ▸ hk')
      · exact Or.inr r
  · rcases h4 x hx with q | q
    · exact Or.inl q
    · rcases List.mem_cons.1 q with r | r
      · exact Or.inl (r ▸ hk')
      · exact Or.inr r
theorem BelInv.put {E : Int → List Int} {ids fs out work : List Int} {k : Int} (h : BelInv E ids fs out (k :: work)) (hE : ∀ x ∈ ids, ∀ y ∈ E x, y ∈ ids) (hk : hasB out k = false) : BelInv E ids fs (insR out k) (work ++ E k) := by
  have hk' : k ∉ out := fun q => by rw [(hasB_iff out k).2 q] at hk; cases hk
  obtain ⟨h1, h2, h3, h4⟩ := h
  obtain ⟨k1, k2⟩ := h3 k List.mem_cons_self
  refine ⟨insR_rises _ _ h1 hk', fun x hx => ?_, fun x hx => ?_, fun x hx => ?_⟩
  · rcases (insR_mem out k x).1 hx with e | e
    · subst e
      exact ⟨k1, k2, fun y hy => Or.inr (List.mem_append_right _ hy)⟩
    · refine ⟨(h2 x e).1, (h2 x e).2.1, fun y hy => ?_⟩
      rcases (h2 x e).2.2 y hy with q | q
      · exact Or.inl ((insR_mem out k y).2 (Or.inr q))
      · rcases List.mem_cons.1 q with r | r
        · exact Or.inl ((insR_mem out k y).2 (Or.inl r))
        · exact Or.inr (List.mem_append_left _ r)
  · rcases List.mem_append.1 hx with e | e
    · exact h3 x (List.mem_cons_of_mem _ e)
    · obtain ⟨u, hu, hr⟩ := k2
      exact ⟨hE k k1 x e, u, hu, hr.snoc e⟩
  · rcases h4 x hx with q | q
    · exact Or.inl ((insR_mem out k x).2 (Or.inr q))
    · rcases List.mem_cons.1 q with r | r
      · exact Or.inl ((insR_mem out k x).2 (Or.inl r))
      · exact Or.inr (List.mem_append_left _ r)
theorem BelInv.less {E : Int → List Int} {ids fs out work : List Int} {k : Int} (h : BelInv E ids fs out (k :: work)) (hk : hasB out k = false) : out.length < ids.length := by
  have hk' : k ∉ out := fun q => by rw [(hasB_iff out k).2 q] at hk; cases hk
  obtain ⟨h1, h2, h3, _⟩ := h
  have hnd : (k :: out).Nodup := List.nodup_cons.2 ⟨hk', lt_nodup h1⟩
  have := nodup_len (k :: out) ids hnd fun x hx => by
    rcases List.mem_cons.1 hx with e | e
    · exact e ▸ (h3 k List.mem_cons_self).1
    · exact (h2 x e).1
  simp only [List.length_cons] at this
  omega
theorem BelInv.done {E : Int → List Int} {ids fs out : List Int} (h : BelInv E ids fs out []) : Rises out ∧ ∀ k, k ∈ out ↔ From E fs k := by
  obtain ⟨h1, h2, _, h4⟩ := h
  refine ⟨h1, fun k => ⟨fun q => (h2 k q).2.1, fun q => ?_⟩⟩
  refine from_closed (E := E) (fs := fs) (fun x hx => ?_) (fun x hx y hy => ?_) k q
  · rcases h4 x hx with r | r
    · exact r
    · cases r
  · rcases (h2 x hx).2.2 y hy with r | r
    · exact r
    · cases r
/-- with fuel enough it comes to its end -/
theorem bel_is {E : Int → List Int} {ids fs : List Int} {M : Nat} (hE : ∀ x ∈ ids, ∀ y ∈ E x, y ∈ ids) (hM : ∀ x ∈ ids, (E x).length ≤ M) : ∀ (n : Nat) (out work : List Int), room ids.length M out work ≤ n → BelInv E ids fs out work → Rises (bel E n out work) ∧ ∀ k, k ∈ bel E n out work ↔ From E fs k := by
  intro n
  induction n with
  | zero =>
    intro out work hr hi
    have hw : work = [] := by
      unfold room at hr
      exact List.eq_nil_of_length_eq_zero (by omega)
    subst hw
    rw [bel_end]
    exact hi.done
  | succ n ih =>
    intro out work hr hi
    cases work with
    | nil => rw [bel_end]; exact hi.done
    | cons k work =>
      cases hk : hasB out k with
      | true =>
        rw [bel_skip hk]
        refine ih out work ?_ (hi.skip hk)
        have := room_skip (N := ids.length) (M := M) (out := out) (work := work) (k := k)
        omega
      | false =>
        rw [bel_put hk]
        refine ih _ _ ?_ (hi.put hE hk)
        have := room_put (work := work) (es := E k) (k := k) (hi.less hk) (hM k (hi.2.2.1 k List.mem_cons_self).1)
        omega
end Go.Proofs.YtnonfehmbabfhaaGreat
namespace Go.Proofs.YtnonfehmbabfhaaGreat
open Go.RowKit
theorem SeqAt.part {w : World} {lo : Nat} {a : Option Addr} {n cap : Nat} {xs : List Int} (h : SeqAt 1 IntAt w lo (.slice a n cap) xs) (l k : Nat) (hl : l ≤ k) (hk : k ≤ n) : SeqAt 1 IntAt w lo (sliced a l k cap 1) ((xs.take k).drop l) := by
  obtain ⟨a', cap', e, hm, hx⟩ := h
  injection e with e1 e2 e3
  subst e1 e2 e3
  have hlen : ((xs.take k).drop l).length = k - l := by simp; omega
  refine ⟨if cap = l then a else a.map (·.add (l * 1)), cap - l, by rw [hlen]; rfl, by rw [hlen]; omega, fun h0 => ?_⟩
  obtain ⟨b, off, rfl, h1, h2, hc⟩ := hx (by omega)
  rw [if_neg (by omega)]
  refine ⟨b, off + l, ?_, h1, h2, fun i hi => ?_⟩
  · simp only [Option.map_some, Nat.mul_one, Addr.add]
    split
    · rename_i e; subst e; simp
    · rfl
  · obtain ⟨cs, hcl, lie, r⟩ := hc (l + i) (by omega)
    refine ⟨cs, hcl, fun m hm => ?_, ?_⟩
    · have := lie m hm
      rw [show off + l + i * 1 + m = off + (l + i) * 1 + m by omega]
      exact this
    · rw [List.getElem_drop, List.getElem_take]; exact r
theorem run_cut {a : Option Addr} {n cap j : Nat} (h : j ≤ cap) : ∀ W : World, Sem.run Tryz.prog (Instr.sliceAt 33 (.slice a n cap) none (some (.int .i64 (j : Int))) none) W = .ok (sliced a 0 j cap 1) W := fun W => by
  simp [Instr.sliceAt, Instr.slice, run_underlying Tryz.underlying33, Instr.sliceBounds, run_sliceBound, sliced, Tryz.sizeOf2, Result.andThen, h]
theorem run_rest {a : Option Addr} {n cap j : Nat} (h : j ≤ n) : ∀ W : World, Sem.run Tryz.prog (Instr.sliceAt 33 (.slice a n cap) (some (.int .i64 (j : Int))) none none) W = .ok (sliced a j n cap 1) W := fun W => by
  simp [Instr.sliceAt, Instr.slice, run_underlying Tryz.underlying33, Instr.sliceBounds, run_sliceBound, sliced, Tryz.sizeOf2, Result.andThen, h]
set_option maxRecDepth 100000 in
set_option maxHeartbeats 2000000 in
theorem l5Put_any {w : World} {lo : Nat} {k : Value} {xs : List Int} {id : Int} (hk : SeqAt 1 IntAt w lo k xs) (hl : xs.length ≤ 1048576) (hn : hasB xs id = false) :
    Calls Tryz.prog 90 #[k, .int .i64 id] w fun e w' => (∃ g cap, e = .returned (.slice (some ⟨g, 0, none⟩) (xs.length + 1) cap) ∧ w'.ownsRow w.heap.size 2 1 (.slice (some ⟨g, 0, none⟩) (xs.length + 1) cap) (xs.length + 1) ((insR xs id).map fun n => .int .i64 n)) ∧ Below w.heap.size w w' := by
  obtain ⟨iI, hiI, heI⟩ := Option.map_eq_some_iff.1 infoI64
  simp only [Prod.mk.injEq] at heI
  have hI : Hid _ := hiI
  have hE : Hid _ := heI
  clear hiI heI
  have hk' : Hid (SeqAt 1 IntAt w lo k xs) := hk
  obtain ⟨a, cap, rfl, hm, hx⟩ := hk
  have hx' : Hid _ := hx
  have hn' : Hid (hasB xs id = false) := hn
  have hcap : xs.length ≤ cap := hm.2
  clear hx hm hn
  go_enter Tryz.func90, Tryz.ntmps90
  go_wp2_with fail
  refine (l2Has_any hk'.out).mono ?_
  rintro e w1 ⟨rfl, hw⟩
  rw [hw, hn'.out]
  clear hw w1
  go_wp2_with fail
  go_loop [5] (fun i => ∃ (j : Nat), j ≤ xs.length ∧ i = .int .i64 j ∧ Hid (∀ i, (hi : i < xs.length) → i < j → xs[i] < id)) (fun i => xs.length - (intOf i).toNat)
  case atStart => exact ⟨0, by omega, rfl, fun _ _ h => by omega⟩
  case round =>
    obtain ⟨j, hj, rfl, hlow⟩ := hrel
    have hcap' : (j : Int) ≤ (cap : Int) := by omega
    have hj0 : (0 : Int) ≤ (j : Int) := by omega
    have hjl : (j : Int) ≤ (xs.length : Int) := by omega
    by_cases hgo : ∃ hlt : j < xs.length, xs[j] < id
    · obtain ⟨hlt, hq⟩ := hgo
      obtain ⟨b, off, rfl, hlo, hbw, hc⟩ := hx'.out (by omega)
      obtain ⟨cs, hcl, lie, hr⟩ := hc j hlt
      have hlow2 : Hid (∀ i, (hi : i < xs.length) → i < j + 1 → xs[i] < id) := fun i hi hij => by
        rcases Nat.lt_or_ge i j with q | q
        · exact hlow.out i hi q
        · obtain rfl : i = j := by omega
          exact hq
      generalize xs[j] = X at hr hq
      obtain ⟨rfl, hI2⟩ := hr
      have z0 := lie 0 (by simp)
      simp only [List.getElem?_cons_zero, Nat.add_zero, Nat.mul_one] at z0
      have hlt' : (j : Int) < (xs.length : Int) := by omega
      clear lie hcl hx' hc
      go_wp2_with fail
      go_round
      case rel => exact ⟨j + 1, by omega, by go_num, hlow2⟩
      case measure => simp [intOf]; omega
    have hsplit : Hid (insR xs id = xs.take j ++ [id] ++ xs.drop j) := insR_split xs id j hj hlow.out (fun hlt q => hgo ⟨hlt, q⟩)
    have h1 : Hid (SeqAt 1 IntAt w lo (sliced a 0 j cap 1) (xs.take j)) := by have q := hk'.out.part 0 j (by omega) hj; rwa [List.drop_zero] at q
    have h2 : Hid (SeqAt 1 IntAt w lo (sliced a j xs.length cap 1) (xs.drop j)) := by have q := hk'.out.part j xs.length hj (Nat.le_refl _); rwa [List.take_length] at q
    have hlen : (xs.take j).length = j ∧ (xs.drop j).length = xs.length - j := by simp; omega
    obtain ⟨K1, hK1⟩ : ∃ K1, xs.take j = K1 := ⟨_, rfl⟩
    obtain ⟨K2, hK2⟩ : ∃ K2, xs.drop j = K2 := ⟨_, rfl⟩
    rw [hK1, hK2] at hsplit hlen
    rw [hK1] at h1
    rw [hK2] at h2
    have hl1 : K1.length = j := hlen.1
    have hl2 : K2.length = xs.length - j := hlen.2
    clear hK1 hK2 hlen
    have hst : Hid ((w.alloc (.cells #[] 2)).ownsRow w.heap.size 2 1 (.slice (some ⟨w.heap.size, 0, none⟩) 0 0) 0 []) := row_start (Nat.le_refl _)
    have hb0 : Below w.heap.size w (w.alloc (.cells #[] 2)) := (Below.refl _ _).alloc (Nat.le_refl _) _
    have hk1 : Hid (SeqAt 1 IntAt (w.alloc (.cells #[] 2)) lo (sliced a 0 j cap 1) K1) := SeqAt.keep intAt_stays h1.out (.of_below hb0)
    obtain ⟨A1, C1, hV1⟩ : ∃ A1 C1, sliced a 0 j cap 1 = .slice A1 j C1 := ⟨_, _, rfl⟩
    obtain ⟨A2, C2, hV2⟩ : ∃ A2 C2, sliced a j xs.length cap 1 = .slice A2 (xs.length - j) C2 := ⟨_, _, rfl⟩
    have hsl1 := run_cut (a := a) (n := xs.length) (cap := cap) (j := j) (by omega)
    have hsl2 := run_rest (a := a) (n := xs.length) (cap := cap) (j := j) (by omega)
    rw [hV1] at hsl1 hk1
    rw [hV2] at hsl2 h2
    clear hV1 hV2
    have hgd : Hid (∀ hlt : j < xs.length, ¬ xs[j] < id) := fun hlt q => hgo ⟨hlt, q⟩
    clear h1 hgo hlow
    by_cases hlt : j < xs.length
    · obtain ⟨b, off, rfl, hlo, hbw, hc⟩ := hx'.out (by omega)
      obtain ⟨cs, hcl, lie, hr⟩ := hc j hlt
      have hq : ¬ xs[j] < id := hgd.out hlt
      generalize xs[j] = X at hr hq
      obtain ⟨rfl, hI2⟩ := hr
      have z0 := lie 0 (by simp)
      simp only [List.getElem?_cons_zero, Nat.add_zero, Nat.mul_one] at z0
      have hlt' : (j : Int) < (xs.length : Int) := by omega
      have hq' : decide (X < id) = false := by simpa using hq
      clear lie hcl hx' hc hgd hq
      go_wp2_with (at_builtin; refine wpList_append_ints rfl _ _ 33 rfl (w.heap.size) lo 2 iI Tryz.underlying33 hI.out hE.out.1 hE.out.2.2 hE.out.2.1 (.slice (some ⟨w.heap.size, 0, none⟩) 0 0) (0) ([]) rfl (by simp) hst.out _ (K1) rfl (by exact hk1.out) (by omega) (by first | omega | (simp; omega) | simp) ?_)
      intro v1 w1 hown1 hgrow1 hnn1
      obtain ⟨g1, cap1, rfl⟩ := nonnil_row hown1 hnn1
      have hb1 : Below w.heap.size w w1 := hb0.grown hgrow1 hb0.size (own_block hst.out)
      obtain ⟨L1, hL1⟩ : ∃ L1, (K1.map fun n => Value.int .i64 n) = L1 := ⟨_, rfl⟩
      have hr1 : Hid (w1.ownsRow w.heap.size 2 1 (.slice (some ⟨g1, 0, none⟩) j cap1) j L1) := by rw [← hL1]; show World.ownsRow _ _ _ _ _ _ _; simpa using hown1
      have hL1' : Hid _ := hL1
      have hs1 := hb1.size
      clear hown1 hgrow1 hnn1 hL1
      go_wp2_with (at_builtin; refine wpList_append_own _ rfl _ _ 33 rfl (w.heap.size) 2 iI (.int .i64 0) 1 8 Tryz.underlying33 hI.out hE.out.1 hE.out.2.2 hE.out.2.1 rfl (by decide) _ (j) (L1) rfl (hr1.out.alloc _) ⟨w1.heap.size, 0, none⟩ 1 1 [.int .i64 id] rfl rfl (by intro q u hq; match q, hq with | 0, hq => simp at hq; subst hq; simp [Addr.add]) (by simp [Value.oneCell']) (by unfold maxLen; omega) (by omega) (by simp; omega) ?_)
      intro v2 w2 hown2 hgrow2 hnl2
      have hnn2 : v2 ≠ .slice none 0 0 := fun q => by first | exact hnl2 q | (have := (hnl2.1 q).2; omega)
      obtain ⟨g2, cap2, rfl⟩ := nonnil_row hown2 hnn2
      have hb2 : Below w.heap.size w w2 := (hb1.alloc hs1 _).grown hgrow2 (by simp; omega) (own_block hr1.out)
      obtain ⟨L2, hL2⟩ : ∃ L2, (L1 ++ [Value.int .i64 id]) = L2 := ⟨_, rfl⟩
      have hr2 : Hid (w2.ownsRow w.heap.size 2 1 (.slice (some ⟨g2, 0, none⟩) (j + 1) cap2) (j + 1) L2) := by rw [← hL2]; exact hown2
      have hL2' : Hid _ := hL2
      have hs2 := hb2.size
      have hk2 : Hid (SeqAt 1 IntAt w2 lo (.slice A2 (xs.length - j) C2) K2) := SeqAt.keep intAt_stays h2.out (.of_below hb2)
      clear hown2 hgrow2 hnn2 hL2 hnl2
      go_wp2_with (at_builtin; refine wpList_append_ints rfl _ _ 33 rfl (w.heap.size) lo 2 iI Tryz.underlying33 hI.out hE.out.1 hE.out.2.2 hE.out.2.1 (.slice (some ⟨g2, 0, none⟩) (j + 1) cap2) (j + 1) (L2) rfl (by simp) hr2.out _ (K2) rfl (by exact hk2.out) (by omega) (by first | omega | (simp; omega) | simp) ?_)
      intro v3 w3 hown3 hgrow3 hnn3
      obtain ⟨g3, cap3, rfl⟩ := nonnil_row hown3 hnn3
      have hb3 : Below w.heap.size w w3 := hb2.grown hgrow3 hs2 (own_block hr2.out)
      have hr3 : Hid (w3.ownsRow w.heap.size 2 1 (.slice (some ⟨g3, 0, none⟩) (j + 1 + (xs.length - j)) cap3) (j + 1 + (xs.length - j)) (L2 ++ K2.map fun n => .int .i64 n)) := hown3
      clear hown3 hgrow3 hnn3
      go_wp2_with fail
      go_ret
      have e1 : j + 1 + (xs.length - j) = xs.length + 1 := by omega
      have q := hr3.out
      rw [e1, ← hL2'.out, ← hL1'.out] at q
      refine ⟨⟨g3, cap3, by rw [e1]; rfl, ?_⟩, hb3⟩
      rw [hsplit.out]
      simpa using q
    · have hlt' : decide ((j : Int) < (xs.length : Int)) = false := by simp; omega
      clear hx' hgd
      go_wp2_with (at_builtin; refine wpList_append_ints rfl _ _ 33 rfl (w.heap.size) lo 2 iI Tryz.underlying33 hI.out hE.out.1 hE.out.2.2 hE.out.2.1 (.slice (some ⟨w.heap.size, 0, none⟩) 0 0) (0) ([]) rfl (by simp) hst.out _ (K1) rfl (by exact hk1.out) (by omega) (by first | omega | (simp; omega) | simp) ?_)
      intro v1 w1 hown1 hgrow1 hnn1
      obtain ⟨g1, cap1, rfl⟩ := nonnil_row hown1 hnn1
      have hb1 : Below w.heap.size w w1 := hb0.grown hgrow1 hb0.size (own_block hst.out)
      obtain ⟨L1, hL1⟩ : ∃ L1, (K1.map fun n => Value.int .i64 n) = L1 := ⟨_, rfl⟩
      have hr1 : Hid (w1.ownsRow w.heap.size 2 1 (.slice (some ⟨g1, 0, none⟩) j cap1) j L1) := by rw [← hL1]; show World.ownsRow _ _ _ _ _ _ _; simpa using hown1
      have hL1' : Hid _ := hL1
      have hs1 := hb1.size
      clear hown1 hgrow1 hnn1 hL1
      go_wp2_with (at_builtin; refine wpList_append_own _ rfl _ _ 33 rfl (w.heap.size) 2 iI (.int .i64 0) 1 8 Tryz.underlying33 hI.out hE.out.1 hE.out.2.2 hE.out.2.1 rfl (by decide) _ (j) (L1) rfl (hr1.out.alloc _) ⟨w1.heap.size, 0, none⟩ 1 1 [.int .i64 id] rfl rfl (by intro q u hq; match q, hq with | 0, hq => simp at hq; subst hq; simp [Addr.add]) (by simp [Value.oneCell']) (by unfold maxLen; omega) (by omega) (by simp; omega) ?_)
      intro v2 w2 hown2 hgrow2 hnl2
      have hnn2 : v2 ≠ .slice none 0 0 := fun q => by first | exact hnl2 q | (have := (hnl2.1 q).2; omega)
      obtain ⟨g2, cap2, rfl⟩ := nonnil_row hown2 hnn2
      have hb2 : Below w.heap.size w w2 := (hb1.alloc hs1 _).grown hgrow2 (by simp; omega) (own_block hr1.out)
      obtain ⟨L2, hL2⟩ : ∃ L2, (L1 ++ [Value.int .i64 id]) = L2 := ⟨_, rfl⟩
      have hr2 : Hid (w2.ownsRow w.heap.size 2 1 (.slice (some ⟨g2, 0, none⟩) (j + 1) cap2) (j + 1) L2) := by rw [← hL2]; exact hown2
      have hL2' : Hid _ := hL2
      have hs2 := hb2.size
      have hk2 : Hid (SeqAt 1 IntAt w2 lo (.slice A2 (xs.length - j) C2) K2) := SeqAt.keep intAt_stays h2.out (.of_below hb2)
      clear hown2 hgrow2 hnn2 hL2 hnl2
      go_wp2_with (at_builtin; refine wpList_append_ints rfl _ _ 33 rfl (w.heap.size) lo 2 iI Tryz.underlying33 hI.out hE.out.1 hE.out.2.2 hE.out.2.1 (.slice (some ⟨g2, 0, none⟩) (j + 1) cap2) (j + 1) (L2) rfl (by simp) hr2.out _ (K2) rfl (by exact hk2.out) (by omega) (by first | omega | (simp; omega) | simp) ?_)
      intro v3 w3 hown3 hgrow3 hnn3
      obtain ⟨g3, cap3, rfl⟩ := nonnil_row hown3 hnn3
      have hb3 : Below w.heap.size w w3 := hb2.grown hgrow3 hs2 (own_block hr2.out)
      have hr3 : Hid (w3.ownsRow w.heap.size 2 1 (.slice (some ⟨g3, 0, none⟩) (j + 1 + (xs.length - j)) cap3) (j + 1 + (xs.length - j)) (L2 ++ K2.map fun n => .int .i64 n)) := hown3
      clear hown3 hgrow3 hnn3
      go_wp2_with fail
      go_ret
      have e1 : j + 1 + (xs.length - j) = xs.length + 1 := by omega
      have q := hr3.out
      rw [e1, ← hL2'.out, ← hL1'.out] at q
      refine ⟨⟨g3, cap3, by rw [e1]; rfl, ?_⟩, hb3⟩
      rw [hsplit.out]
      simpa using q
end Go.Proofs.YtnonfehmbabfhaaGreat
namespace Go.Proofs.YtnonfehmbabfhaaGreat
open Go.RowKit
theorem row_seq {w : World} {base n : Nat} {v : Value} {xs : List Int} (h : w.ownsRow base 2 1 v n (xs.map fun n => .int .i64 n)) (hI : ∀ x ∈ xs, InI x) : SeqAt 1 IntAt w 0 v xs := by
  have hn : n = xs.length := by have := h.1; simp at this; omega
  subst hn
  rcases h.2 with ⟨rfl, e⟩ | ⟨g, cap, cur, rfl, hg, hh, h1, h2, h3, h4⟩
  · exact ⟨none, 0, by rw [e], ⟨by omega, by omega⟩, fun q => by omega⟩
  · refine ⟨_, _, rfl, ⟨Nat.le_trans h1 h2, h1⟩, fun _ => ⟨g, 0, rfl, Nat.zero_le _, (Array.getElem?_eq_some_iff.1 hh).1, fun i hi => ⟨[.int .i64 xs[i]], rfl, fun m hm => ?_, rfl, hI _ (List.getElem_mem hi)⟩⟩⟩
    obtain rfl : m = 0 := by simpa using hm
    have e : (cur.toList.take (xs.length * 1))[i]? = some (.int .i64 xs[i]) := by rw [h4]; simp [hi]
    rw [List.getElem?_take_of_lt (by omega)] at e
    rw [blk_cell hh]
    simpa using e
def belD (h : HeapD) (fs : List Int) : List Int := bel (edgesS h) (room (idsD h).length 1048578 [] fs) [] fs
theorem belD_def (h : HeapD) (fs : List Int) : belD h fs = bel (edgesS h) (room (idsD h).length 1048578 [] fs) [] fs := by unfold belD; exact Eq.refl _
theorem fuel_ok (h : HeapD) (fs : List Int) (hN : (idsD h).length ≤ 32) (hl : fs.length ≤ 2097152) : ∃ F, belD h fs = bel (edgesS h) F [] fs ∧ room (idsD h).length 1048578 [] fs ≤ F ∧ F ≤ 36700226 := by
  refine ⟨room (idsD h).length 1048578 [] fs, belD_def h fs, Nat.le_refl _, ?_⟩
  unfold room
  simp only [List.length_nil, Nat.sub_zero, Nat.reduceAdd]
  omega
theorem edges_there {h : HeapD} (e : specB h = true) {x : Int} (hx : x ∈ idsD h) : ∀ y ∈ edgesS h x, y ∈ idsD h := fun y hy => by
  rw [← holds_edges (spec_impl h ▸ e) (ids_ne_zero (spec_impl h ▸ e) x hx)] at hy
  exact mem_idsD.2 (mem_idsU.2 (holdsC_there e hy))
theorem edges_most {h : HeapD} (e : specB h = true) (hs : h.small) (x : Int) : (edgesS h x).length ≤ 1048578 := by
  have := edges_len hs x
  unfold edgesD at this
  rwa [if_pos e] at this
theorem idsD_in {w : World} {lo : Nat} {cs : List Value} {h : HeapD} (hh : HeapAt w lo cs h) : ∀ x ∈ idsD h, InI x := by
  obtain ⟨k2, k3, k4, _, s2, s3, _⟩ := hh
  intro x hx
  have hx := mem_idsD.1 hx
  unfold idsU at hx
  rcases List.mem_append.1 hx with q | q
  · obtain ⟨y, hy, rfl⟩ := List.mem_map.1 q
    obtain ⟨cy, g3, g5, _, _, _, rI, _⟩ := seq_recs s2 hy
    exact rI
  · obtain ⟨y, hy, rfl⟩ := List.mem_map.1 q
    obtain ⟨cy, g2, _, _, rI, _⟩ := seq_recs s3 hy
    exact rI
theorem roots_there {h : HeapD} (e : specB h = true) : ∀ x ∈ rootsD h, x ∈ idsD h := fun x hx => by
  have h1 : (0, x) ∈ accG h := by
    unfold accG
    exact List.mem_append_right _ (List.mem_map_of_mem hx)
  exact mem_idsD.2 (mem_idsU.2 (accG_there e _ h1))
theorem idsD_most {h : HeapD} (e : specB h = true) : (idsD h).length ≤ 32 := by
  rw [idsD_len]
  have h1 := (spec_parts e).1
  have h2 := objs_most e
  simp only [idsU, List.length_append, List.length_map]
  omega
/-- what it is: all that is reached, rising -/
theorem belD_is {h : HeapD} (e : specB h = true) (hs : h.small) {fs : List Int} (hf : ∀ x ∈ fs, x ∈ idsD h) : Rises (belD h fs) ∧ ∀ k, k ∈ belD h fs ↔ From (edgesS h) fs k :=
  by rw [belD_def]; exact bel_is (fun _ hx => edges_there e hx) (fun x _ => edges_most e hs x) _ _ _ (Nat.le_refl _) (BelInv.start hf)
set_option maxRecDepth 100000 in
set_option maxHeartbeats 2000000 in
theorem l5Roots_any {w : World} {lo : Nat} {cs : List Value} {h : HeapD} (hh : HeapAt w lo cs h) (hs : h.small) :
    Calls Tryz.prog 54 #[.agg cs.toArray] w fun e w' => (∃ g cap, e = .returned (.slice (some ⟨g, 0, none⟩) (rootsD h).length cap) ∧ w'.ownsRow w.heap.size 2 1 (.slice (some ⟨g, 0, none⟩) (rootsD h).length cap) (rootsD h).length ((rootsD h).map fun n => .int .i64 n)) ∧ Below w.heap.size w w' := by
  obtain ⟨k2, k3, k4, rfl, s2, s3, s4, rNext, rDoc, _⟩ := hh
  obtain ⟨a2, cap2, rfl⟩ := s2.form
  obtain ⟨a3, cap3, rfl⟩ := s3.form
  obtain ⟨a4, cap4, rfl, hm4, hx4⟩ := s4
  have hx4' : Hid _ := hx4
  have hgl : h.vGlobals.length ≤ 1048576 := hs.2.2.1.1
  clear hx4 s2 s3 rNext rDoc hm4 hs
  obtain ⟨iI, hiI, heI⟩ := Option.map_eq_some_iff.1 infoI64
  simp only [Prod.mk.injEq] at heI
  have hI : Hid _ := hiI
  have hE : Hid _ := heI
  clear hiI heI
  have hb2 : Below w.heap.size w ((w.alloc (.cells #[.int .i64 h.vNext, .int .i64 h.vDoc, .slice a2 h.vNodes.length cap2, .slice a3 h.vObjs.length cap3, .slice a4 h.vGlobals.length cap4] 32)).alloc (.cells #[.int .i64 h.vDoc] 2)) := ((Below.refl _ _).alloc (Nat.le_refl _) _).alloc (by simp) _
  have bH0 : Hid (Box ((w.alloc (.cells #[.int .i64 h.vNext, .int .i64 h.vDoc, .slice a2 h.vNodes.length cap2, .slice a3 h.vObjs.length cap3, .slice a4 h.vGlobals.length cap4] 32)).alloc (.cells #[.int .i64 h.vDoc] 2)) w.heap.size [.int .i64 h.vNext, .int .i64 h.vDoc, .slice a2 h.vNodes.length cap2, .slice a3 h.vObjs.length cap3, .slice a4 h.vGlobals.length cap4] 32) := (Box.new w [.int .i64 h.vNext, .int .i64 h.vDoc, .slice a2 h.vNodes.length cap2, .slice a3 h.vObjs.length cap3, .slice a4 h.vGlobals.length cap4] 32).alloc _
  have hr0 : Hid (((w.alloc (.cells #[.int .i64 h.vNext, .int .i64 h.vDoc, .slice a2 h.vNodes.length cap2, .slice a3 h.vObjs.length cap3, .slice a4 h.vGlobals.length cap4] 32)).alloc (.cells #[.int .i64 h.vDoc] 2)).ownsRow (w.heap.size + 1) 2 1 (.slice (some ⟨w.heap.size + 1, 0, none⟩) 1 1) 1 [.int .i64 h.vDoc]) :=
    ⟨rfl, Or.inr ⟨_, _, #[.int .i64 h.vDoc], rfl, Nat.le_refl _, by have q := (MapKept.heap_alloc (w.alloc (.cells #[.int .i64 h.vNext, .int .i64 h.vDoc, .slice a2 h.vNodes.length cap2, .slice a3 h.vObjs.length cap3, .slice a4 h.vGlobals.length cap4] 32)) (.cells #[.int .i64 h.vDoc] 2)).1; simpa using q, Nat.le_refl _, by unfold maxLen; omega, rfl, rfl⟩⟩
  go_enter Tryz.func54, Tryz.ntmps54
  go_wp2_with fail
  go_loopw [3, 4] (fun v i wr => ∃ (j : Nat), j ≤ h.vGlobals.length ∧ i = .int .i64 j ∧ Hid (wr.ownsRow (w.heap.size + 1) 2 1 v (1 + j) ((h.vDoc :: (h.vGlobals.take j).map FieldD.vObj).map fun n => .int .i64 n)) ∧ Hid (∃ g cap, v = .slice (some ⟨g, 0, none⟩) (1 + j) cap) ∧ Hid (Box wr w.heap.size [.int .i64 h.vNext, .int .i64 h.vDoc, .slice a2 h.vNodes.length cap2, .slice a3 h.vObjs.length cap3, .slice a4 h.vGlobals.length cap4] 32) ∧ Below w.heap.size w wr) (fun _ i _ => h.vGlobals.length - (intOf i).toNat)
  case atStart => exact ⟨0, by omega, rfl, by show World.ownsRow _ _ _ _ _ _ _; simpa using hr0.out, ⟨_, _, rfl⟩, bH0, hb2⟩
  case round =>
    clear hr0 bH0 hb2
    obtain ⟨j, hj, rfl, hown, hform, bHr, hbr⟩ := hrel
    obtain ⟨gv, capv, rfl⟩ := hform.out
    clear hform
    have hzr : w.heap.size + 1 ≤ wr.heap.size := bHr.out.lt
    have c4 := bHr.out.cell 4 rfl
    by_cases hlt : j < h.vGlobals.length
    · obtain ⟨bf, offf, rfl, hlof, hbwf, hcf⟩ := hx4'.out (by omega)
      obtain ⟨csf, hclf, lief, hrf⟩ := hcf j hlt
      have lief1 := Lie.keep (lo := lo) (lo' := lo) lief (.of_below hbr) hlof hbwf
      have hstep : Hid ((h.vGlobals.take (j + 1)).map FieldD.vObj = (h.vGlobals.take j).map FieldD.vObj ++ [h.vGlobals[j].vObj]) := by show _ = _; rw [List.take_succ_eq_append_getElem hlt, List.map_append]; rfl
      generalize hF : h.vGlobals[j] = Fd at hrf hstep
      obtain ⟨rfl, _⟩ := hrf
      have y1 := lie_at lief1 1 rfl
      obtain ⟨L, hL⟩ : ∃ L, ((h.vDoc :: (h.vGlobals.take j).map FieldD.vObj).map fun n => Value.int .i64 n) = L := ⟨_, rfl⟩
      have hownL : Hid (wr.ownsRow (w.heap.size + 1) 2 1 (.slice (some ⟨gv, 0, none⟩) (1 + j) capv) (1 + j) L) := by rw [← hL]; exact hown
      have hL' : Hid _ := hL
      have hlt' : (j : Int) < (h.vGlobals.length : Int) := by omega
      clear hF hL lief lief1 hclf hcf
      go_wp2_with (at_builtin; refine wpList_append_own _ rfl _ _ 33 rfl (w.heap.size + 1) 2 iI (.int .i64 0) 1 8 Tryz.underlying33 hI.out hE.out.1 hE.out.2.2 hE.out.2.1 rfl (by decide) _ (1 + j) (L) rfl (hownL.out.alloc _) ⟨wr.heap.size, 0, none⟩ 1 1 [.int .i64 Fd.vObj] rfl rfl (by intro q u hq; match q, hq with | 0, hq => simp at hq; subst hq; simp [Addr.add]) (by simp [Value.oneCell']) (by unfold maxLen; omega) (by omega) (by simp; omega) ?_)
      intro v' w1' hown' hgrow hnl
      have hnn : v' ≠ .slice none 0 0 := fun q => by first | exact hnl q | (have := (hnl.1 q).2; omega)
      obtain ⟨g', cap', rfl⟩ := nonnil_row hown' hnn
      have hb3 : Below w.heap.size w w1' := (hbr.alloc hbr.size _).grown hgrow (by have := hbr.size; simp; omega) (fun k e => by have := own_block hownL.out k e; omega)
      have hb4 : Below (w.heap.size + 1) wr w1' := ((Below.refl _ _).alloc (by omega) _).grown hgrow (by simp; omega) (own_block hownL.out)
      have bH5 : Hid _ := bHr.out.below hb4 (by omega)
      have hown1 : Hid (w1'.ownsRow (w.heap.size + 1) 2 1 (.slice (some ⟨g', 0, none⟩) (1 + j + 1) cap') (1 + j + 1) (L ++ [.int .i64 Fd.vObj])) := hown'
      clear hown' hgrow hnn hnl
      go_wp2_with fail
      go_roundw
      case rel =>
        refine ⟨j + 1, by omega, by go_num, ?_, ?_, bH5.out, hb3⟩
        · show World.ownsRow _ _ _ _ _ _ _
          rw [hstep.out, ← List.cons_append, List.map_append, hL'.out]
          exact hown1.out
        · exact ⟨_, _, by first | rfl | simp only [Nat.add_assoc]⟩
      case measure => simp [intOf]; omega
    obtain rfl : j = h.vGlobals.length := by omega
    go_wp2_with fail
    go_ret
    have q := hown.out
    rw [List.take_length] at q
    have e1 : (rootsD h).length = 1 + h.vGlobals.length := by simp [rootsD]; omega
    rw [e1]
    exact ⟨⟨gv, capv, rfl, World.ownsRow.mono q (by omega)⟩, hbr⟩
set_option maxRecDepth 100000 in
set_option maxHeartbeats 4000000 in
theorem l5Below_any {w : World} {lo : Nat} {cs : List Value} {h : HeapD} {k : Value} {fs : List Int} (hh : HeapAt w lo cs h) (hs : h.small) (hp : specB h = true) (hk : SeqAt 1 IntAt w lo k fs) (hfs : ∀ x ∈ fs, x ∈ idsD h) (hl : fs.length ≤ 2097152) :
    Calls Tryz.prog 53 #[.agg cs.toArray, k] w fun e w' => (∃ v, e = .returned v ∧ w'.ownsRow w.heap.size 2 1 v (belD h fs).length ((belD h fs).map fun n => .int .i64 n)) ∧ Below w.heap.size w w' := by
  have hh' : Hid (HeapAt w lo cs h) := hh
  have hs' : Hid h.small := hs
  have hp' : Hid (specB h = true) := hp
  have hk' : Hid (SeqAt 1 IntAt w lo k fs) := hk
  have hin : Hid (∀ x ∈ idsD h, InI x) := idsD_in hh
  have hN : Hid ((idsD h).length ≤ 32) := idsD_most hp
  have hi0 : Hid (BelInv (edgesS h) (idsD h) fs [] fs) := BelInv.start hfs
  obtain ⟨k2, k3, k4, rfl, s2, s3, s4, _⟩ := hh
  obtain ⟨a2, cap2, rfl⟩ := s2.form
  obtain ⟨a3, cap3, rfl⟩ := s3.form
  obtain ⟨a4, cap4, rfl⟩ := s4.form
  obtain ⟨ak, ck, rfl⟩ := hk.form
  clear s2 s3 s4 hk hs hp hfs
  obtain ⟨iI, hiI, heI⟩ := Option.map_eq_some_iff.1 infoI64
  simp only [Prod.mk.injEq] at heI
  have hI : Hid _ := hiI
  have hE : Hid _ := heI
  clear hiI heI
  have hbA : Below w.heap.size w (((w.alloc (.cells #[.int .i64 h.vNext, .int .i64 h.vDoc, .slice a2 h.vNodes.length cap2, .slice a3 h.vObjs.length cap3, .slice a4 h.vGlobals.length cap4] 32)).alloc (.cells #[] 2)).alloc (.cells #[] 2)) := (((Below.refl _ _).alloc (Nat.le_refl _) _).alloc (by simp) _).alloc (by simp; omega) _
  have bHA : Hid (Box (((w.alloc (.cells #[.int .i64 h.vNext, .int .i64 h.vDoc, .slice a2 h.vNodes.length cap2, .slice a3 h.vObjs.length cap3, .slice a4 h.vGlobals.length cap4] 32)).alloc (.cells #[] 2)).alloc (.cells #[] 2)) w.heap.size [.int .i64 h.vNext, .int .i64 h.vDoc, .slice a2 h.vNodes.length cap2, .slice a3 h.vObjs.length cap3, .slice a4 h.vGlobals.length cap4] 32) := ((Box.new w [.int .i64 h.vNext, .int .i64 h.vDoc, .slice a2 h.vNodes.length cap2, .slice a3 h.vObjs.length cap3, .slice a4 h.vGlobals.length cap4] 32).alloc _).alloc _
  have hoA : Hid ((((w.alloc (.cells #[.int .i64 h.vNext, .int .i64 h.vDoc, .slice a2 h.vNodes.length cap2, .slice a3 h.vObjs.length cap3, .slice a4 h.vGlobals.length cap4] 32)).alloc (.cells #[] 2)).alloc (.cells #[] 2)).ownsRow (w.heap.size + 1) 2 1 (.slice (some ⟨w.heap.size + 1, 0, none⟩) 0 0) 0 []) := by
    have q := (row_start (w := (w.alloc (.cells #[.int .i64 h.vNext, .int .i64 h.vDoc, .slice a2 h.vNodes.length cap2, .slice a3 h.vObjs.length cap3, .slice a4 h.vGlobals.length cap4] 32))) (B := w.heap.size + 1) (by simp)).alloc (.cells #[] 2)
    simpa only [World.size_alloc, Hid] using q
  have hwA : Hid ((((w.alloc (.cells #[.int .i64 h.vNext, .int .i64 h.vDoc, .slice a2 h.vNodes.length cap2, .slice a3 h.vObjs.length cap3, .slice a4 h.vGlobals.length cap4] 32)).alloc (.cells #[] 2)).alloc (.cells #[] 2)).ownsRow (w.heap.size + 2) 2 1 (.slice (some ⟨w.heap.size + 1 + 1, 0, none⟩) 0 0) 0 []) := by
    have q := row_start (w := (w.alloc (.cells #[.int .i64 h.vNext, .int .i64 h.vDoc, .slice a2 h.vNodes.length cap2, .slice a3 h.vObjs.length cap3, .slice a4 h.vGlobals.length cap4] 32)).alloc (.cells #[] 2)) (B := w.heap.size + 2) (by simp)
    simpa only [World.size_alloc, Hid] using q
  have hkA : Hid (SeqAt 1 IntAt (((w.alloc (.cells #[.int .i64 h.vNext, .int .i64 h.vDoc, .slice a2 h.vNodes.length cap2, .slice a3 h.vObjs.length cap3, .slice a4 h.vGlobals.length cap4] 32)).alloc (.cells #[] 2)).alloc (.cells #[] 2)) lo (.slice ak fs.length ck) fs) := SeqAt.keep intAt_stays hk'.out (.of_below hbA)
  have hzA : (((w.alloc (.cells #[.int .i64 h.vNext, .int .i64 h.vDoc, .slice a2 h.vNodes.length cap2, .slice a3 h.vObjs.length cap3, .slice a4 h.vGlobals.length cap4] 32)).alloc (.cells #[] 2)).alloc (.cells #[] 2)).heap.size = w.heap.size + 3 := by simp
  go_enter Tryz.func53, Tryz.ntmps53
  go_wp2_with (at_builtin; refine wpList_append_ints rfl _ _ 33 rfl (w.heap.size + 2) lo 2 iI Tryz.underlying33 hI.out hE.out.1 hE.out.2.2 hE.out.2.1 (.slice (some ⟨w.heap.size + 1 + 1, 0, none⟩) 0 0) (0) ([]) rfl (by simp) hwA.out _ (fs) rfl hkA.out (by omega) (by first | omega | (simp; omega) | simp) ?_)
  intro vB wB hownB hgrowB hnnB
  obtain ⟨gB, capB, rfl⟩ := nonnil_row hownB hnnB
  have hbB : Below (w.heap.size + 2) (((w.alloc (.cells #[.int .i64 h.vNext, .int .i64 h.vDoc, .slice a2 h.vNodes.length cap2, .slice a3 h.vObjs.length cap3, .slice a4 h.vGlobals.length cap4] 32)).alloc (.cells #[] 2)).alloc (.cells #[] 2)) wB := (Below.refl _ _).grown hgrowB (by omega) (own_block hwA.out)
  have hBw : Below w.heap.size w wB := hbA.trans (hbB.mono (by omega))
  have bHB : Hid (Box wB w.heap.size [.int .i64 h.vNext, .int .i64 h.vDoc, .slice a2 h.vNodes.length cap2, .slice a3 h.vObjs.length cap3, .slice a4 h.vGlobals.length cap4] 32) := bHA.out.below hbB (by omega)
  have hoB : Hid (wB.ownsRow (w.heap.size + 1) 2 1 (.slice (some ⟨w.heap.size + 1, 0, none⟩) 0 0) 0 []) := row_keep hoA.out (fun g q => by simp only [Value.ownBlock, Option.some.injEq] at q; subst q; exact hbB.block _ (by omega))
  have hwB : Hid (wB.ownsRow (w.heap.size + 1) 2 1 (.slice (some ⟨gB, 0, none⟩) fs.length capB) fs.length (fs.map fun n => .int .i64 n)) := by
    have q := World.ownsRow.mono hownB (show w.heap.size + 1 ≤ w.heap.size + 2 by omega)
    show World.ownsRow _ _ _ _ _ _ _
    simpa using q
  clear hownB hgrowB hnnB bHA hoA hwA hkA hzA
  go_wp2_with fail
  go_loopw [5, 6] (fun vo vw wr => ∃ (out work : List Int) (n : Nat), Hid (BelInv (edgesS h) (idsD h) fs out work) ∧ Hid (belD h fs = bel (edgesS h) n out work ∧ room (idsD h).length 1048578 out work ≤ n ∧ n ≤ 36700226) ∧ Hid (∃ g cap, vo = .slice (some ⟨g, 0, none⟩) out.length cap) ∧ Hid (∃ g cap, vw = .slice (some ⟨g, 0, none⟩) work.length cap) ∧ Hid (wr.ownsRow (w.heap.size + 1) 2 1 vo out.length (out.map fun n => .int .i64 n)) ∧ Hid (wr.ownsRow (w.heap.size + 1) 2 1 vw work.length (work.map fun n => .int .i64 n)) ∧ Hid (Box wr w.heap.size [.int .i64 h.vNext, .int .i64 h.vDoc, .slice a2 h.vNodes.length cap2, .slice a3 h.vObjs.length cap3, .slice a4 h.vGlobals.length cap4] 32) ∧ Below w.heap.size w wr) (fun vo vw _ => ((idsD h).length - lenOf vo) * 1048579 + lenOf vw)
  case atStart =>
    obtain ⟨F, hF1, hF2, hF3⟩ := fuel_ok h fs hN.out hl
    exact ⟨[], fs, F, hi0, ⟨hF1, hF2, hF3⟩, ⟨_, _, rfl⟩, ⟨_, _, rfl⟩, hoB, hwB, bHB, hBw⟩
  case round =>
    clear hi0 hoB hwB bHB hBw hbA hbB
    obtain ⟨out, work, n, hinv, hfuel, hfo, hfw, hro, hrw, bHr, hbr⟩ := hrel
    obtain ⟨go, capo, rfl⟩ := hfo.out
    obtain ⟨gw, capw, rfl⟩ := hfw.out
    clear hfo hfw
    have hzr : w.heap.size + 1 ≤ wr.heap.size := bHr.out.lt
    have hgo : go < wr.heap.size := row_lt' hro.out rfl
    have hroom : Hid (room (idsD h).length 1048578 out work ≤ 36700226) := Nat.le_trans hfuel.out.2.1 hfuel.out.2.2
    have hwl : work.length ≤ 36700226 := by have q := hroom.out; unfold room at q; omega
    have hIw : Hid (∀ x ∈ work, InI x) := fun x hx => hin.out x (hinv.out.2.2.1 x hx).1
    have hIo : Hid (∀ x ∈ out, InI x) := fun x hx => hin.out x (hinv.out.2.1 x hx).1
    have hol : out.length ≤ 32 := by
      have q := nodup_len out (idsD h) (lt_nodup hinv.out.1) (fun x hx => (hinv.out.2.1 x hx).1)
      have := hN.out
      omega
    cases work with
    | nil =>
      have HB : Hid (belD h fs = out) := by show _ = _; rw [hfuel.out.1, bel_end]
      go_wp2_with fail
      go_ret
      exact ⟨⟨_, rfl, by rw [HB.out]; exact World.ownsRow.mono hro.out (by omega)⟩, hbr⟩
    | cons k0 rest =>
      have hk0 : Hid (k0 ∈ idsD h) := (hinv.out.2.2.1 k0 List.mem_cons_self).1
      obtain ⟨g', eg, z0⟩ := row_get hrw.out (j := 0) (by simp) (x := .int .i64 k0) rfl
      injection eg with eg
      injection eg with eg _ _
      subst eg
      have hsq : SeqAt 1 IntAt wr 0 (.slice (some ⟨gw, 0, none⟩) (k0 :: rest).length capw) (k0 :: rest) := row_seq hrw.out hIw.out
      have hpt : Hid (SeqAt 1 IntAt wr 0 (sliced (some ⟨gw, 0, none⟩) 1 (k0 :: rest).length capw 1) rest) := by
        have q := hsq.part 1 (k0 :: rest).length (by simp) (Nat.le_refl _)
        rw [List.take_length] at q
        exact q
      have hsl : ∀ W : World, Sem.run Tryz.prog (Instr.sliceAt 33 (.slice (some ⟨gw, 0, none⟩) (k0 :: rest).length capw) (some (.int .i64 1)) none none) W = .ok (sliced (some ⟨gw, 0, none⟩) 1 (k0 :: rest).length capw 1) W := run_rest (j := 1) (by simp)
      obtain ⟨A2, C2, hV2⟩ : ∃ A2 C2, sliced (some ⟨gw, 0, none⟩) 1 (k0 :: rest).length capw 1 = .slice A2 rest.length C2 := ⟨_, _, rfl⟩
      rw [hV2] at hsl hpt
      have hlr : (k0 :: rest).length = rest.length + 1 := rfl
      have hrl : rest.length ≤ 36700226 := by simp at hwl; omega
      rw [hlr] at hsl hrw
      have hst : Hid ((wr.alloc (.cells #[] 2)).ownsRow wr.heap.size 2 1 (.slice (some ⟨wr.heap.size, 0, none⟩) 0 0) 0 []) := row_start (Nat.le_refl _)
      have hbq : Below wr.heap.size wr (wr.alloc (.cells #[] 2)) := (Below.refl _ _).alloc (Nat.le_refl _) _
      have hptq : Hid (SeqAt 1 IntAt (wr.alloc (.cells #[] 2)) 0 (.slice A2 rest.length C2) rest) := SeqAt.keep intAt_stays hpt.out (.of_below hbq)
      clear hsq hpt hV2 hwl
      go_wp2_with (at_builtin; refine wpList_append_ints rfl _ _ 33 rfl (wr.heap.size) 0 2 iI Tryz.underlying33 hI.out hE.out.1 hE.out.2.2 hE.out.2.1 (.slice (some ⟨wr.heap.size, 0, none⟩) 0 0) (0) ([]) rfl (by simp) hst.out _ (rest) rfl hptq.out (by omega) (by first | omega | (simp; omega) | simp) ?_)
      intro v1 w1 hown1 hgrow1 hnn1
      obtain ⟨g1, cap1, rfl⟩ := nonnil_row hown1 hnn1
      have hb1 : Below wr.heap.size wr w1 := hbq.grown hgrow1 (by simp) (own_block hst.out)
      have hr1 : Hid (w1.ownsRow wr.heap.size 2 1 (.slice (some ⟨g1, 0, none⟩) rest.length cap1) rest.length (rest.map fun n => .int .i64 n)) := by show World.ownsRow _ _ _ _ _ _ _; simpa using hown1
      have hro1 : Hid (w1.ownsRow (w.heap.size + 1) 2 1 (.slice (some ⟨go, 0, none⟩) out.length capo) out.length (out.map fun n => .int .i64 n)) := own_below hro.out hb1
      have bH1 : Hid (Box w1 w.heap.size [.int .i64 h.vNext, .int .i64 h.vDoc, .slice a2 h.vNodes.length cap2, .slice a3 h.vObjs.length cap3, .slice a4 h.vGlobals.length cap4] 32) := bHr.out.below hb1 (by omega)
      have hbr1 : Below w.heap.size w w1 := hbr.trans (hb1.mono hbr.size)
      have hsq1 : Hid (SeqAt 1 IntAt w1 0 (.slice (some ⟨go, 0, none⟩) out.length capo) out) := row_seq hro1.out hIo.out
      have hz1 := hb1.size
      clear hown1 hgrow1 hnn1 hst hptq hsl z0 hro hrw
      go_wp2_with fail
      refine (l2Has_any hsq1.out).mono ?_
      rintro e w1' ⟨rfl, hw1⟩
      rw [hw1]
      clear hw1 w1'
      cases hhas : hasB out k0
      rotate_left
      · have hinv2 : Hid (BelInv (edgesS h) (idsD h) fs out rest) := hinv.out.skip hhas
        have hfuel2 : Hid (belD h fs = bel (edgesS h) (n - 1) out rest ∧ room (idsD h).length 1048578 out rest ≤ n - 1 ∧ n - 1 ≤ 36700226) := by
          obtain ⟨f1, f2, f3⟩ := hfuel.out
          have hr := room_skip (N := (idsD h).length) (M := 1048578) (out := out) (work := rest) (k := k0)
          refine ⟨?_, by omega, by omega⟩
          rw [f1, show n = (n - 1) + 1 by omega, bel_skip hhas]; rfl
        clear hhas
        go_wp2_with fail
        go_roundw
        case rel => exact ⟨out, rest, n - 1, hinv2, hfuel2, ⟨_, _, rfl⟩, ⟨_, _, rfl⟩, hro1, World.ownsRow.mono hr1.out (by omega), bH1, hbr1⟩
        case measure => simp [lenOf]
      have hhas' : Hid (hasB out k0 = false) := hhas
      have hless : Hid (out.length < (idsD h).length) := hinv.out.less hhas
      have hinv2 : Hid (BelInv (edgesS h) (idsD h) fs (insR out k0) (rest ++ edgesS h k0)) := hinv.out.put (fun _ hx => edges_there hp'.out hx) hhas
      have hem : Hid ((edgesS h k0).length ≤ 1048578) := edges_most hp'.out hs'.out k0
      have hfuel2 : Hid (belD h fs = bel (edgesS h) (n - 1) (insR out k0) (rest ++ edgesS h k0) ∧ room (idsD h).length 1048578 (insR out k0) (rest ++ edgesS h k0) ≤ n - 1 ∧ n - 1 ≤ 36700226) := by
        obtain ⟨f1, f2, f3⟩ := hfuel.out
        have hr := room_put (N := (idsD h).length) (M := 1048578) (work := rest) (es := edgesS h k0) (k := k0) hless.out hem.out
        refine ⟨?_, by omega, by omega⟩
        rw [f1, show n = (n - 1) + 1 by omega, bel_put hhas]; rfl
      clear hhas hinv hfuel
      go_wp2_with fail
      refine (l5Put_any hsq1.out (by omega) hhas'.out).mono ?_
      rintro e w2 ⟨⟨g2, cap2', rfl, hown2⟩, hb2⟩
      have hr2 : Hid (w2.ownsRow w1.heap.size 2 1 (.slice (some ⟨g2, 0, none⟩) (out.length + 1) cap2') (out.length + 1) ((insR out k0).map fun n => .int .i64 n)) := hown2
      have hr1b : Hid (w2.ownsRow wr.heap.size 2 1 (.slice (some ⟨g1, 0, none⟩) rest.length cap1) rest.length (rest.map fun n => .int .i64 n)) := own_below hr1.out hb2
      have hbr2 : Below w.heap.size w w2 := hbr1.trans (hb2.mono hbr1.size)
      have bH2 : Hid (Box w2 w.heap.size [.int .i64 h.vNext, .int .i64 h.vDoc, .slice a2 h.vNodes.length cap2, .slice a3 h.vObjs.length cap3, .slice a4 h.vGlobals.length cap4] 32) := bH1.out.below hb2 (by omega)
      have hz2 := hb2.size
      have hg1 : g1 < w1.heap.size := row_lt' hr1.out rfl
      have d0 := bH2.out.cell 0 rfl
      have d1 := bH2.out.cell 1 rfl
      have d2 := bH2.out.cell 2 rfl
      have d3 := bH2.out.cell 3 rfl
      have d4 := bH2.out.cell 4 rfl
      clear hown2 hb2 bH1 hsq1 hro1
      go_wp2_with fail
      refine (l5Edges_any (id := k0) (HeapAt_stays _ _ _ lo _ _ (.of_below hbr2) hh'.out) hs'.out).mono ?_
      rintro e w3 ⟨⟨v3, rfl, hown3⟩, hb3⟩
      have hIe : Hid (∀ x ∈ edgesS h k0, InI x) := edges_in hh'.out
      have hsq3 : Hid (SeqAt 1 IntAt w3 0 v3 (edgesS h k0)) := row_seq hown3 hIe.out
      obtain ⟨a3', c3', rfl⟩ := own_forms hown3
      have hr3 : Hid (w3.ownsRow wr.heap.size 2 1 (.slice (some ⟨g1, 0, none⟩) rest.length cap1) rest.length (rest.map fun n => .int .i64 n)) := own_below hr1b.out hb3
      have hr2b : Hid (w3.ownsRow w1.heap.size 2 1 (.slice (some ⟨g2, 0, none⟩) (out.length + 1) cap2') (out.length + 1) ((insR out k0).map fun n => .int .i64 n)) := own_below hr2.out hb3
      have hbr3 : Below w.heap.size w w3 := hbr2.trans (hb3.mono hbr2.size)
      have bH3 : Hid (Box w3 w.heap.size [.int .i64 h.vNext, .int .i64 h.vDoc, .slice a2 h.vNodes.length cap2, .slice a3 h.vObjs.length cap3, .slice a4 h.vGlobals.length cap4] 32) := bH2.out.below hb3 (by omega)
      have hz3 := hb3.size
      have hg2 : w1.heap.size ≤ g2 := own_block hr2.out g2 rfl
      have hg2l : g2 < w3.heap.size := row_lt' hr2b.out rfl
      have hel : (edgesS h k0).length ≤ 1048578 := hem.out
      obtain ⟨ES, hES⟩ : ∃ ES, edgesS h k0 = ES := ⟨_, rfl⟩
      rw [hES] at hsq3 hel hinv2 hfuel2
      rw [hES]
      clear hown3 hb3 bH2 hr1b hr2 d0 d1 d2 d3 d4 hES hem hIe hr1
      go_wp2_with (at_builtin; refine wpList_append_ints rfl _ _ 33 rfl (wr.heap.size) 0 2 iI Tryz.underlying33 hI.out hE.out.1 hE.out.2.2 hE.out.2.1 (.slice (some ⟨g1, 0, none⟩) rest.length cap1) (rest.length) (rest.map fun n => .int .i64 n) rfl (by simp) hr3.out _ (ES) rfl hsq3.out (by omega) (by first | omega | (simp; omega) | simp) ?_)
      intro v4 w4 hown4 hgrow4 hnn4
      obtain ⟨g4, cap4', rfl⟩ := nonnil_row hown4 hnn4
      have hb4 : Below w.heap.size w w4 := hbr3.grown hgrow4 hbr3.size (fun k e => by have := own_block hr3.out k e; omega)
      have bH4 : Hid (Box w4 w.heap.size [.int .i64 h.vNext, .int .i64 h.vDoc, .slice a2 h.vNodes.length cap2, .slice a3 h.vObjs.length cap3, .slice a4 h.vGlobals.length cap4] 32) := (hgrow4.block _ bH3.out.lt (fun q => by have := own_block hr3.out _ q.symm; omega)).trans bH3.out
      have hr4 : Hid (w4.ownsRow (w.heap.size + 1) 2 1 (.slice (some ⟨g2, 0, none⟩) (insR out k0).length cap2') (insR out k0).length ((insR out k0).map fun n => .int .i64 n)) := by
        rw [insR_len]
        refine World.ownsRow.mono (row_keep hr2b.out (fun g q => ?_)) (show w.heap.size + 1 ≤ w1.heap.size by omega)
        simp only [Value.ownBlock, Option.some.injEq] at q
        subst q
        exact hgrow4.block _ hg2l (fun q => by simp only [Value.ownBlock, Option.some.injEq] at q; omega)
      have hw4 : Hid (w4.ownsRow (w.heap.size + 1) 2 1 (.slice (some ⟨g4, 0, none⟩) (rest ++ ES).length cap4') (rest ++ ES).length ((rest ++ ES).map fun n => .int .i64 n)) := by
        rw [List.length_append, List.map_append]
        exact World.ownsRow.mono hown4 (show w.heap.size + 1 ≤ wr.heap.size by omega)
      clear hown4 hgrow4 hnn4
      have hless' := hless.out
      go_wp2_with fail
      go_roundw
      case rel => exact ⟨insR out k0, rest ++ ES, n - 1, hinv2, hfuel2, ⟨_, _, by rw [insR_len]⟩, ⟨_, _, by rw [List.length_append]⟩, by rw [insR_len] at hr4 ⊢; exact hr4, by rw [List.length_append] at hw4 ⊢; exact hw4, bH4, hb4⟩
      case measure =>
        simp only [lenOf, List.length_cons]
        have e : (idsD h).length - out.length = ((idsD h).length - (out.length + 1)) + 1 := by omega
        rw [e, Nat.add_mul, Nat.one_mul]
        omega
end Go.Proofs.YtnonfehmbabfhaaGreat
