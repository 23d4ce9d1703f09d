/- The specification's lists that rise, walked. -/
import Derived.Test.YtdnembnlomnceaaGreatGraphIds
import Derived.Test.YtdnembnlomnceaaGreatEdgesTop
import Derived.Test.YtdnembnlomnceaaGreatAppendRows
namespace Go.Proofs.YtdnembnlomnceaaGreat
theorem hasB_iff : ∀ (xs : List Int) (k : Int), hasB xs k = true ↔ k ∈ xs := by
 intro xs k
 induction xs with
 | nil => simp [hasB]
 | cons x xs ih =>
  simp only [hasB, Bool.or_eq_true, decide_eq_true_eq, List.mem_cons, ih]
  constructor
  · rintro (e | e)
    · exact Or.inl e.symm
    · exact Or.inr e
  · rintro (e | e)
    · exact Or.inl e.symm
    · exact Or.inr e
/-- one more in a list that rises -/
def insR : List Int → Int → List Int
 | [], k => [k]
 | x :: xs, k => if x < k then x :: insR xs k else k :: x :: xs
theorem insR_mem : ∀ (xs : List Int) (k y : Int), y ∈ insR xs k ↔ y = k ∨ y ∈ xs := by
 intro xs k y
 induction xs with
 | nil => simp [insR]
 | cons x xs ih =>
  unfold insR
  split
  · simp only [List.mem_cons, ih]
    constructor
    · rintro (e | e | e)
      · exact Or.inr (Or.inl e)
      · exact Or.inl e
      · exact Or.inr (Or.inr e)
    · rintro (e | e | e)
      · exact Or.inr (Or.inl e)
      · exact Or.inl e
      · exact Or.inr (Or.inr e)
  · simp only [List.mem_cons]
theorem insR_len : ∀ (xs : List Int) (k : Int), (insR xs k).length = xs.length + 1 := by
 intro xs k
 induction xs with
 | nil => rfl
 | cons x xs ih =>
  unfold insR
  split
  · simp [ih]
  · simp
def Rises (xs : List Int) : Prop := xs.Pairwise (fun a b => a < b)
theorem insR_rises : ∀ (xs : List Int) (k : Int), Rises xs → k ∉ xs → Rises (insR xs k) := by
 intro xs k
 induction xs with
 | nil => intro _ _; simp [insR, Rises]
 | cons x xs ih =>
  intro h hk
  obtain ⟨h1, h2⟩ := List.pairwise_cons.1 h
  unfold insR
  split
  · rename_i hlt
    refine List.pairwise_cons.2 ⟨fun y hy => ?_, ih h2 (fun q => hk (List.mem_cons_of_mem _ q))⟩
    rcases (insR_mem xs k y).1 hy with e | e
    · omega
    · exact h1 y e
  · rename_i hlt
    have hne : k ≠ x := fun q => hk (by rw [q]; exact List.mem_cons_self)
    refine List.pairwise_cons.2 ⟨fun y hy => ?_, h⟩
    rcases List.mem_cons.1 hy with e | e
    · omega
    · have := h1 y e; omega
theorem insR_split : ∀ (xs : List Int) (k : Int) (j : Nat), j ≤ xs.length → (∀ i, (hi : i < xs.length) → i < j → xs[i] < k) → (∀ (hj : j < xs.length), ¬ xs[j] < k) → insR xs k = xs.take j ++ [k] ++ xs.drop j := by
 intro xs k
 induction xs with
 | nil => intro j hj _ _; simp at hj; subst hj; rfl
 | cons x xs ih =>
  intro j hj h1 h2
  cases j with
  | zero =>
   have := h2 (by simp)
   simp only [List.getElem_cons_zero] at this
   simp [insR, this]
  | succ j =>
   have hx := h1 0 (by simp) (by omega)
   simp only [List.getElem_cons_zero] at hx
   have := ih j (by simpa using hj) (fun i hi hij => by have := h1 (i + 1) (by simpa using hi) (by omega); simpa using this) (fun hj' => by have := h2 (by simpa using hj'); simpa using this)
   simp only [insR, if_pos hx, this, List.take_succ_cons, List.drop_succ_cons, List.cons_append]
/-- lists that rise and have the same are the same -/
theorem rises_same : ∀ (xs ys : List Int), Rises xs → Rises ys → (∀ k, k ∈ xs ↔ k ∈ ys) → xs = ys := by
 intro xs
 induction xs with
 | nil =>
  intro ys _ _ h
  cases ys with
  | nil => rfl
  | cons y ys => have := (h y).2 List.mem_cons_self; cases this
 | cons x xs ih =>
  intro ys hx hy h
  cases ys with
  | nil => have := (h x).1 List.mem_cons_self; cases this
  | cons y ys =>
   obtain ⟨x1, x2⟩ := List.pairwise_cons.1 hx
   obtain ⟨y1, y2⟩ := List.pairwise_cons.1 hy
   have e : x = y := by
    rcases List.mem_cons.1 ((h x).1 List.mem_cons_self) with q | q
    · exact q
    · rcases List.mem_cons.1 ((h y).2 List.mem_cons_self) with r | r
      · exact r.symm
      · have a := y1 x q
        have b := x1 y r
        omega
   subst e
   rw [ih ys x2 y2 fun k => ?_]
   constructor
   · intro q
     rcases List.mem_cons.1 ((h k).1 (List.mem_cons_of_mem _ q)) with r | r
     · have := x1 k q; omega
     · exact r
   · intro q
     rcases List.mem_cons.1 ((h k).2 (List.mem_cons_of_mem _ q)) with r | r
     · have := y1 k q; omega
     · exact r
theorem nodup_len : ∀ (xs ys : List Int), xs.Nodup → (∀ k ∈ xs, k ∈ ys) → xs.length ≤ ys.length := by
 intro xs
 induction xs with
 | nil => intro ys _ _; simp
 | cons x xs ih =>
  intro ys h hs
  obtain ⟨h1, h2⟩ := List.nodup_cons.1 h
  have hx : x ∈ ys := hs x List.mem_cons_self
  have := ih (ys.erase x) h2 fun k hk => (List.mem_erase_of_ne (fun q : k = x => h1 (by rw [← q]; exact hk))).2 (hs k (List.mem_cons_of_mem _ hk))
  rw [List.length_erase_of_mem hx] at this
  have : 0 < ys.length := List.length_pos_of_mem hx
  simp only [List.length_cons]
  omega
/-! ### reached -/
def RTn (E : Int → List Int) : Nat → Int → Int → Prop
 | 0, x, z => x = z
 | n + 1, x, z => ∃ y, y ∈ E x ∧ RTn E n y z
def RT (E : Int → List Int) (x z : Int) : Prop := ∃ n, RTn E n x z
theorem RT.refl (E : Int → List Int) (x : Int) : RT E x x := ⟨0, rfl⟩
theorem RT.head {E : Int → List Int} {x y z : Int} (h : y ∈ E x) (k : RT E y z) : RT E x z := by
 obtain ⟨n, hn⟩ := k
 exact ⟨n + 1, y, h, hn⟩
theorem RTn.snoc {E : Int → List Int} : ∀ (n : Nat) {x y z : Int}, RTn E n x y → z ∈ E y → RTn E (n + 1) x z := by
 intro n
 induction n with
 | zero => intro x y z h k; cases h; exact ⟨z, k, rfl⟩
 | succ n ih =>
  intro x y z h k
  obtain ⟨u, h1, h2⟩ := h
  exact ⟨u, h1, ih h2 k⟩
theorem RT.snoc {E : Int → List Int} {x y z : Int} (h : RT E x y) (k : z ∈ E y) : RT E x z := by
 obtain ⟨n, hn⟩ := h
 exact ⟨n + 1, hn.snoc n k⟩
theorem RT.trans {E : Int → List Int} {x y z : Int} (h : RT E x y) (k : RT E y z) : RT E x z := by
 obtain ⟨n, hn⟩ := k
 induction n generalizing y with
 | zero => cases hn; exact h
 | succ n ih =>
  obtain ⟨u, h1, h2⟩ := hn
  exact ih (h.snoc h1) h2
def From (E : Int → List Int) (fs : List Int) (z : Int) : Prop := ∃ x, x ∈ fs ∧ RT E x z
/-- closed under what is held, and from these: just what is reached -/
theorem from_closed {E : Int → List Int} {fs xs : List Int} (h1 : ∀ x ∈ fs, x ∈ xs) (h2 : ∀ x ∈ xs, ∀ y ∈ E x, y ∈ xs) : ∀ z, From E fs z → z ∈ xs := by
 rintro z ⟨x, hx, n, hn⟩
 have := h1 x hx
 clear hx h1
 induction n generalizing x with
 | zero => cases hn; exact this
 | succ n ih =>
  obtain ⟨u, q1, q2⟩ := hn
  exact ih u q2 (h2 x this u q1)
/-- the specification's way -/
def bel (E : Int → List Int) : Nat → List Int → List Int → List Int
 | 0, out, _ => out
 | _ + 1, out, [] => out
 | n + 1, out, k :: work => if hasB out k = true then bel E n out work else bel E n (insR out k) (work ++ E k)
theorem bel_end (E : Int → List Int) (n : Nat) (out : List Int) : bel E n out [] = out := by cases n <;> rfl
theorem bel_skip {E : Int → List Int} {n : Nat} {out work : List Int} {k : Int} (h : hasB out k = true) : bel E (n + 1) out (k :: work) = bel E n out work := by simp [bel, h]
theorem bel_put {E : Int → List Int} {n : Nat} {out work : List Int} {k : Int} (h : hasB out k = false) : bel E (n + 1) out (k :: work) = bel E n (insR out k) (work ++ E k) := by simp [bel, h]
/-- how far it may be to the end -/
def room (N M : Nat) (out work : List Int) : Nat := (N - out.length) * (M + 1) + work.length
theorem room_skip {N M : Nat} {out work : List Int} {k : Int} : room N M out work < room N M out (k :: work) := by simp [room]
theorem room_put {N M : Nat} {out work es : List Int} {k : Int} (h1 : out.length < N) (h2 : es.length ≤ M) : room N M (insR out k) (work ++ es) < room N M out (k :: work) := by
 unfold room
 rw [insR_len, List.length_append, List.length_cons]
 have e : N - out.length = (N - (out.length + 1)) + 1 := by omega
 rw [e, Nat.add_mul, Nat.one_mul]
 omega
/-- what it knows on its way -/
def BelInv (E : Int → List Int) (ids fs out work : List Int) : Prop :=
 Rises out ∧ (∀ k ∈ out, k ∈ ids ∧ From E fs k ∧ ∀ y ∈ E k, y ∈ out ∨ y ∈ work) ∧ (∀ k ∈ work, k ∈ ids ∧ From E fs k) ∧ ∀ k ∈ fs, k ∈ out ∨ k ∈ work
theorem BelInv.start {E : Int → List Int} {ids fs : List Int} (h : ∀ k ∈ fs, k ∈ ids) : BelInv E ids fs [] fs :=
 ⟨List.Pairwise.nil, fun k hk => (by cases hk), fun k hk => ⟨h k hk, k, hk, RT.refl E k⟩, fun k hk => Or.inr hk⟩
theorem BelInv.skip {E : Int → List Int} {ids fs out work : List Int} {k : Int} (h : BelInv E ids fs out (k :: work)) (hk : hasB out k = true) : BelInv E ids fs out work := by
 have hk' := (hasB_iff out k).1 hk
 obtain ⟨h1, h2, h3, h4⟩ := h
 refine ⟨h1, fun x hx => ⟨(h2 x hx).1, (h2 x hx).2.1, fun y hy => ?_⟩, fun x hx => h3 x (List.mem_cons_of_mem _ hx), fun x hx => ?_⟩
 · rcases (h2 x hx).2.2 y hy with q | q
   · exact Or.inl q
   · rcases List.mem_cons.1 q with r | r
     · exact Or.inl (r ▸ hk')
     · exact Or.inr r
 · rcases h4 x hx with q | q
   · exact Or.inl q
   · rcases List.mem_cons.1 q with r | r
     · exact Or.inl (r ▸ hk')
     · exact Or.inr r
theorem BelInv.put {E : Int → List Int} {ids fs out work : List Int} {k : Int} (h : BelInv E ids fs out (k :: work)) (hE : ∀ x ∈ ids, ∀ y ∈ E x, y ∈ ids) (hk : hasB out k = false) : BelInv E ids fs (insR out k) (work ++ E k) := by
 have hk' : k ∉ out := fun q => by rw [(hasB_iff out k).2 q] at hk; cases hk
 obtain ⟨h1, h2, h3, h4⟩ := h
 obtain ⟨k1, k2⟩ := h3 k List.mem_cons_self
 refine ⟨insR_rises _ _ h1 hk', fun x hx => ?_, fun x hx => ?_, fun x hx => ?_⟩
 · rcases (insR_mem out k x).1 hx with e | e
   · subst e
     exact ⟨k1, k2, fun y hy => Or.inr (List.mem_append_right _ hy)⟩
   · refine ⟨(h2 x e).1, (h2 x e).2.1, fun y hy => ?_⟩
     rcases (h2 x e).2.2 y hy with q | q
     · exact Or.inl ((insR_mem out k y).2 (Or.inr q))
     · rcases List.mem_cons.1 q with r | r
       · exact Or.inl ((insR_mem out k y).2 (Or.inl r))
       · exact Or.inr (List.mem_append_left _ r)
 · rcases List.mem_append.1 hx with e | e
   · exact h3 x (List.mem_cons_of_mem _ e)
   · obtain ⟨u, hu, hr⟩ := k2
     exact ⟨hE k k1 x e, u, hu, hr.snoc e⟩
 · rcases h4 x hx with q | q
   · exact Or.inl ((insR_mem out k x).2 (Or.inr q))
   · rcases List.mem_cons.1 q with r | r
     · exact Or.inl ((insR_mem out k x).2 (Or.inl r))
     · exact Or.inr (List.mem_append_left _ r)
theorem BelInv.less {E : Int → List Int} {ids fs out work : List Int} {k : Int} (h : BelInv E ids fs out (k :: work)) (hk : hasB out k = false) : out.length < ids.length := by
 have hk' : k ∉ out := fun q => by rw [(hasB_iff out k).2 q] at hk; cases hk
 obtain ⟨h1, h2, h3, _⟩ := h
 have hnd : (k :: out).Nodup := List.nodup_cons.2 ⟨hk', lt_nodup h1⟩
 have := nodup_len (k :: out) ids hnd fun x hx => by
  rcases List.mem_cons.1 hx with e | e
  · exact e ▸ (h3 k List.mem_cons_self).1
  · exact (h2 x e).1
 simp only [List.length_cons] at this
 omega
theorem BelInv.done {E : Int → List Int} {ids fs out : List Int} (h : BelInv E ids fs out []) : Rises out ∧ ∀ k, k ∈ out ↔ From E fs k := by
 obtain ⟨h1, h2, _, h4⟩ := h
 refine ⟨h1, fun k => ⟨fun q => (h2 k q).2.1, fun q => ?_⟩⟩
 refine from_closed (E := E) (fs := fs) (fun x hx => ?_) (fun x hx y hy => ?_) k q
 · rcases h4 x hx with r | r
   · exact r
   · cases r
 · rcases (h2 x hx).2.2 y hy with r | r
   · exact r
   · cases r
/-- with fuel enough it comes to its end -/
theorem bel_is {E : Int → List Int} {ids fs : List Int} {M : Nat} (hE : ∀ x ∈ ids, ∀ y ∈ E x, y ∈ ids) (hM : ∀ x ∈ ids, (E x).length ≤ M) : ∀ (n : Nat) (out work : List Int), room ids.length M out work ≤ n → BelInv E ids fs out work → Rises (bel E n out work) ∧ ∀ k, k ∈ bel E n out work ↔ From E fs k := by
 intro n
 induction n with
 | zero =>
  intro out work hr hi
  have hw : work = [] := by
   unfold room at hr
   exact List.eq_nil_of_length_eq_zero (by omega)
  subst hw
  rw [bel_end]
  exact hi.done
 | succ n ih =>
  intro out work hr hi
  cases work with
  | nil => rw [bel_end]; exact hi.done
  | cons k work =>
   cases hk : hasB out k with
   | true =>
    rw [bel_skip hk]
    refine ih out work ?_ (hi.skip hk)
    have := room_skip (N := ids.length) (M := M) (out := out) (work := work) (k := k)
    omega
   | false =>
    rw [bel_put hk]
    refine ih _ _ ?_ (hi.put hE hk)
    have := room_put (work := work) (es := E k) (k := k) (hi.less hk) (hM k (hi.2.2.1 k List.mem_cons_self).1)
    omega
end Go.Proofs.YtdnembnlomnceaaGreat
namespace Go.Proofs.YtdnembnlomnceaaGreat
open Go.RowKit
theorem SeqAt.part {w : World} {lo : Nat} {a : Option Addr} {n cap : Nat} {xs : List Int} (h : SeqAt 1 IntAt w lo (.slice a n cap) xs) (l k : Nat) (hl : l ≤ k) (hk : k ≤ n) : SeqAt 1 IntAt w lo (sliced a l k cap 1) ((xs.take k).drop l) := by
 obtain ⟨a', cap', e, hm, hx⟩ := h
 injection e with e1 e2 e3
 subst e1 e2 e3
 have hlen : ((xs.take k).drop l).length = k - l := by simp; omega
 refine ⟨if cap = l then a else a.map (·.add (l * 1)), cap - l, by rw [hlen]; rfl, by rw [hlen]; omega, fun h0 => ?_⟩
 obtain ⟨b, off, rfl, h1, h2, hc⟩ := hx (by omega)
 rw [if_neg (by omega)]
 refine ⟨b, off + l, ?_, h1, h2, fun i hi => ?_⟩
 · simp only [Option.map_some, Nat.mul_one, Addr.add]
   split
   · rename_i e; subst e; simp
   · rfl
 · obtain ⟨cs, hcl, lie, r⟩ := hc (l + i) (by omega)
   refine ⟨cs, hcl, fun m hm => ?_, ?_⟩
   · have := lie m hm
     rw [show off + l + i * 1 + m = off + (l + i) * 1 + m by omega]
     exact this
   · rw [List.getElem_drop, List.getElem_take]; exact r
theorem run_cut {a : Option Addr} {n cap j : Nat} (h : j ≤ cap) : ∀ W : World, Sem.run Tryz.prog (Instr.sliceAt 29 (.slice a n cap) none (some (.int .i64 (j : Int))) none) W = .ok (sliced a 0 j cap 1) W := fun W => by
 simp [Instr.sliceAt, Instr.slice, run_underlying Tryz.underlying29, Instr.sliceBounds, run_sliceBound, sliced, Tryz.sizeOf2, Result.andThen, h]
theorem run_rest {a : Option Addr} {n cap j : Nat} (h : j ≤ n) : ∀ W : World, Sem.run Tryz.prog (Instr.sliceAt 29 (.slice a n cap) (some (.int .i64 (j : Int))) none none) W = .ok (sliced a j n cap 1) W := fun W => by
 simp [Instr.sliceAt, Instr.slice, run_underlying Tryz.underlying29, Instr.sliceBounds, run_sliceBound, sliced, Tryz.sizeOf2, Result.andThen, h]
set_option maxRecDepth 100000 in
set_option maxHeartbeats 2000000 in
theorem l5Put_any {w : World} {lo : Nat} {k : Value} {xs : List Int} {id : Int} (hk : SeqAt 1 IntAt w lo k xs) (hl : xs.length ≤ 1048576) (hn : hasB xs id = false) :
 Calls Tryz.prog 56 #[k, .int .i64 id] w fun e w' => (∃ g cap, e = .returned (.slice (some ⟨g, 0, none⟩) (xs.length + 1) cap) ∧ w'.ownsRow w.heap.size 2 1 (.slice (some ⟨g, 0, none⟩) (xs.length + 1) cap) (xs.length + 1) ((insR xs id).map fun n => .int .i64 n)) ∧ Below w.heap.size w w' := by
 obtain ⟨iI, hiI, heI⟩ := Option.map_eq_some_iff.1 infoI64
 simp only [Prod.mk.injEq] at heI
 have hI : Hid _ := hiI
 have hE : Hid _ := heI
 clear hiI heI
 have hk' : Hid (SeqAt 1 IntAt w lo k xs) := hk
 obtain ⟨a, cap, rfl, hm, hx⟩ := hk
 have hx' : Hid _ := hx
 have hn' : Hid (hasB xs id = false) := hn
 have hcap : xs.length ≤ cap := hm.2
 clear hx hm hn
 go_enter Tryz.func56, Tryz.ntmps56
 go_wp2_with fail
 refine (l2Has_any hk'.out).mono ?_
 rintro e w1 ⟨rfl, hw⟩
 rw [hw, hn'.out]
 clear hw w1
 go_wp2_with fail
 go_loop [5] (fun i => ∃ (j : Nat), j ≤ xs.length ∧ i = .int .i64 j ∧ Hid (∀ i, (hi : i < xs.length) → i < j → xs[i] < id)) (fun i => xs.length - (intOf i).toNat)
 case atStart => exact ⟨0, by omega, rfl, fun _ _ h => by omega⟩
 case round =>
  obtain ⟨j, hj, rfl, hlow⟩ := hrel
  have hcap' : (j : Int) ≤ (cap : Int) := by omega
  have hj0 : (0 : Int) ≤ (j : Int) := by omega
  have hjl : (j : Int) ≤ (xs.length : Int) := by omega
  by_cases hgo : ∃ hlt : j < xs.length, xs[j] < id
  · obtain ⟨hlt, hq⟩ := hgo
    obtain ⟨b, off, rfl, hlo, hbw, hc⟩ := hx'.out (by omega)
    obtain ⟨cs, hcl, lie, hr⟩ := hc j hlt
    have hlow2 : Hid (∀ i, (hi : i < xs.length) → i < j + 1 → xs[i] < id) := fun i hi hij => by
     rcases Nat.lt_or_ge i j with q | q
     · exact hlow.out i hi q
     · obtain rfl : i = j := by omega
       exact hq
    generalize xs[j] = X at hr hq
    obtain ⟨rfl, hI2⟩ := hr
    have z0 := lie 0 (by simp)
    simp only [List.getElem?_cons_zero, Nat.add_zero, Nat.mul_one] at z0
    have hlt' : (j : Int) < (xs.length : Int) := by omega
    clear lie hcl hx' hc
    go_wp2_with fail
    go_round
    case rel => exact ⟨j + 1, by omega, by go_num, hlow2⟩
    case measure => simp [intOf]; omega
  have hsplit : Hid (insR xs id = xs.take j ++ [id] ++ xs.drop j) := insR_split xs id j hj hlow.out (fun hlt q => hgo ⟨hlt, q⟩)
  have h1 : Hid (SeqAt 1 IntAt w lo (sliced a 0 j cap 1) (xs.take j)) := by have q := hk'.out.part 0 j (by omega) hj; rwa [List.drop_zero] at q
  have h2 : Hid (SeqAt 1 IntAt w lo (sliced a j xs.length cap 1) (xs.drop j)) := by have q := hk'.out.part j xs.length hj (Nat.le_refl _); rwa [List.take_length] at q
  have hlen : (xs.take j).length = j ∧ (xs.drop j).length = xs.length - j := by simp; omega
  obtain ⟨K1, hK1⟩ : ∃ K1, xs.take j = K1 := ⟨_, rfl⟩
  obtain ⟨K2, hK2⟩ : ∃ K2, xs.drop j = K2 := ⟨_, rfl⟩
  rw [hK1, hK2] at hsplit hlen
  rw [hK1] at h1
  rw [hK2] at h2
  have hl1 : K1.length = j := hlen.1
  have hl2 : K2.length = xs.length - j := hlen.2
  clear hK1 hK2 hlen
  have hst : Hid ((w.alloc (.cells #[] 2)).ownsRow w.heap.size 2 1 (.slice (some ⟨w.heap.size, 0, none⟩) 0 0) 0 []) := row_start (Nat.le_refl _)
  have hb0 : Below w.heap.size w (w.alloc (.cells #[] 2)) := (Below.refl _ _).alloc (Nat.le_refl _) _
  have hk1 : Hid (SeqAt 1 IntAt (w.alloc (.cells #[] 2)) lo (sliced a 0 j cap 1) K1) := SeqAt.keep intAt_stays h1.out (.of_below hb0)
  obtain ⟨A1, C1, hV1⟩ : ∃ A1 C1, sliced a 0 j cap 1 = .slice A1 j C1 := ⟨_, _, rfl⟩
  obtain ⟨A2, C2, hV2⟩ : ∃ A2 C2, sliced a j xs.length cap 1 = .slice A2 (xs.length - j) C2 := ⟨_, _, rfl⟩
  have hsl1 := run_cut (a := a) (n := xs.length) (cap := cap) (j := j) (by omega)
  have hsl2 := run_rest (a := a) (n := xs.length) (cap := cap) (j := j) (by omega)
  rw [hV1] at hsl1 hk1
  rw [hV2] at hsl2 h2
  clear hV1 hV2
  have hgd : Hid (∀ hlt : j < xs.length, ¬ xs[j] < id) := fun hlt q => hgo ⟨hlt, q⟩
  clear h1 hgo hlow
  by_cases hlt : j < xs.length
  · obtain ⟨b, off, rfl, hlo, hbw, hc⟩ := hx'.out (by omega)
    obtain ⟨cs, hcl, lie, hr⟩ := hc j hlt
    have hq : ¬ xs[j] < id := hgd.out hlt
    generalize xs[j] = X at hr hq
    obtain ⟨rfl, hI2⟩ := hr
    have z0 := lie 0 (by simp)
    simp only [List.getElem?_cons_zero, Nat.add_zero, Nat.mul_one] at z0
    have hlt' : (j : Int) < (xs.length : Int) := by omega
    have hq' : decide (X < id) = false := by simpa using hq
    clear lie hcl hx' hc hgd hq
    go_wp2_with (at_builtin; refine wpList_append_ints rfl _ _ 29 rfl (w.heap.size) lo 2 iI Tryz.underlying29 hI.out hE.out.1 hE.out.2.2 hE.out.2.1 (.slice (some ⟨w.heap.size, 0, none⟩) 0 0) (0) ([]) rfl (by simp) hst.out _ (K1) rfl (by exact hk1.out) (by omega) (by first | omega | (simp; omega) | simp) ?_)
    intro v1 w1 hown1 hgrow1 hnn1
    obtain ⟨g1, cap1, rfl⟩ := nonnil_row hown1 hnn1
    have hb1 : Below w.heap.size w w1 := hb0.grown hgrow1 hb0.size (own_block hst.out)
    obtain ⟨L1, hL1⟩ : ∃ L1, (K1.map fun n => Value.int .i64 n) = L1 := ⟨_, rfl⟩
    have hr1 : Hid (w1.ownsRow w.heap.size 2 1 (.slice (some ⟨g1, 0, none⟩) j cap1) j L1) := by rw [← hL1]; show World.ownsRow _ _ _ _ _ _ _; simpa using hown1
    have hL1' : Hid _ := hL1
    have hs1 := hb1.size
    clear hown1 hgrow1 hnn1 hL1
    go_wp2_with (at_builtin; refine wpList_append_own _ rfl _ _ 29 rfl (w.heap.size) 2 iI (.int .i64 0) 1 8 Tryz.underlying29 hI.out hE.out.1 hE.out.2.2 hE.out.2.1 rfl (by decide) _ (j) (L1) rfl (hr1.out.alloc _) ⟨w1.heap.size, 0, none⟩ 1 1 [.int .i64 id] rfl rfl (by intro q u hq; match q, hq with | 0, hq => simp at hq; subst hq; simp [Addr.add]) (by simp [Value.oneCell']) (by unfold maxLen; omega) (by omega) (by simp; omega) ?_)
    intro v2 w2 hown2 hgrow2 hnl2
    have hnn2 : v2 ≠ .slice none 0 0 := fun q => by first | exact hnl2 q | (have := (hnl2.1 q).2; omega)
    obtain ⟨g2, cap2, rfl⟩ := nonnil_row hown2 hnn2
    have hb2 : Below w.heap.size w w2 := (hb1.alloc hs1 _).grown hgrow2 (by simp; omega) (own_block hr1.out)
    obtain ⟨L2, hL2⟩ : ∃ L2, (L1 ++ [Value.int .i64 id]) = L2 := ⟨_, rfl⟩
    have hr2 : Hid (w2.ownsRow w.heap.size 2 1 (.slice (some ⟨g2, 0, none⟩) (j + 1) cap2) (j + 1) L2) := by rw [← hL2]; exact hown2
    have hL2' : Hid _ := hL2
    have hs2 := hb2.size
    have hk2 : Hid (SeqAt 1 IntAt w2 lo (.slice A2 (xs.length - j) C2) K2) := SeqAt.keep intAt_stays h2.out (.of_below hb2)
    clear hown2 hgrow2 hnn2 hL2 hnl2
    go_wp2_with (at_builtin; refine wpList_append_ints rfl _ _ 29 rfl (w.heap.size) lo 2 iI Tryz.underlying29 hI.out hE.out.1 hE.out.2.2 hE.out.2.1 (.slice (some ⟨g2, 0, none⟩) (j + 1) cap2) (j + 1) (L2) rfl (by simp) hr2.out _ (K2) rfl (by exact hk2.out) (by omega) (by first | omega | (simp; omega) | simp) ?_)
    intro v3 w3 hown3 hgrow3 hnn3
    obtain ⟨g3, cap3, rfl⟩ := nonnil_row hown3 hnn3
    have hb3 : Below w.heap.size w w3 := hb2.grown hgrow3 hs2 (own_block hr2.out)
    have hr3 : Hid (w3.ownsRow w.heap.size 2 1 (.slice (some ⟨g3, 0, none⟩) (j + 1 + (xs.length - j)) cap3) (j + 1 + (xs.length - j)) (L2 ++ K2.map fun n => .int .i64 n)) := hown3
    clear hown3 hgrow3 hnn3
    go_wp2_with fail
    go_ret
    have e1 : j + 1 + (xs.length - j) = xs.length + 1 := by omega
    have q := hr3.out
    rw [e1, ← hL2'.out, ← hL1'.out] at q
    refine ⟨⟨g3, cap3, by rw [e1]; rfl, ?_⟩, hb3⟩
    rw [hsplit.out]
    simpa using q
  · have hlt' : decide ((j : Int) < (xs.length : Int)) = false := by simp; omega
    clear hx' hgd
    go_wp2_with (at_builtin; refine wpList_append_ints rfl _ _ 29 rfl (w.heap.size) lo 2 iI Tryz.underlying29 hI.out hE.out.1 hE.out.2.2 hE.out.2.1 (.slice (some ⟨w.heap.size, 0, none⟩) 0 0) (0) ([]) rfl (by simp) hst.out _ (K1) rfl (by exact hk1.out) (by omega) (by first | omega | (simp; omega) | simp) ?_)
    intro v1 w1 hown1 hgrow1 hnn1
    obtain ⟨g1, cap1, rfl⟩ := nonnil_row hown1 hnn1
    have hb1 : Below w.heap.size w w1 := hb0.grown hgrow1 hb0.size (own_block hst.out)
    obtain ⟨L1, hL1⟩ : ∃ L1, (K1.map fun n => Value.int .i64 n) = L1 := ⟨_, rfl⟩
    have hr1 : Hid (w1.ownsRow w.heap.size 2 1 (.slice (some ⟨g1, 0, none⟩) j cap1) j L1) := by rw [← hL1]; show World.ownsRow _ _ _ _ _ _ _; simpa using hown1
    have hL1' : Hid _ := hL1
    have hs1 := hb1.size
    clear hown1 hgrow1 hnn1 hL1
    go_wp2_with (at_builtin; refine wpList_append_own _ rfl _ _ 29 rfl (w.heap.size) 2 iI (.int .i64 0) 1 8 Tryz.underlying29 hI.out hE.out.1 hE.out.2.2 hE.out.2.1 rfl (by decide) _ (j) (L1) rfl (hr1.out.alloc _) ⟨w1.heap.size, 0, none⟩ 1 1 [.int .i64 id] rfl rfl (by intro q u hq; match q, hq with | 0, hq => simp at hq; subst hq; simp [Addr.add]) (by simp [Value.oneCell']) (by unfold maxLen; omega) (by omega) (by simp; omega) ?_)
    intro v2 w2 hown2 hgrow2 hnl2
    have hnn2 : v2 ≠ .slice none 0 0 := fun q => by first | exact hnl2 q | (have := (hnl2.1 q).2; omega)
    obtain ⟨g2, cap2, rfl⟩ := nonnil_row hown2 hnn2
    have hb2 : Below w.heap.size w w2 := (hb1.alloc hs1 _).grown hgrow2 (by simp; omega) (own_block hr1.out)
    obtain ⟨L2, hL2⟩ : ∃ L2, (L1 ++ [Value.int .i64 id]) = L2 := ⟨_, rfl⟩
    have hr2 : Hid (w2.ownsRow w.heap.size 2 1 (.slice (some ⟨g2, 0, none⟩) (j + 1) cap2) (j + 1) L2) := by rw [← hL2]; exact hown2
    have hL2' : Hid _ := hL2
    have hs2 := hb2.size
    have hk2 : Hid (SeqAt 1 IntAt w2 lo (.slice A2 (xs.length - j) C2) K2) := SeqAt.keep intAt_stays h2.out (.of_below hb2)
    clear hown2 hgrow2 hnn2 hL2 hnl2
    go_wp2_with (at_builtin; refine wpList_append_ints rfl _ _ 29 rfl (w.heap.size) lo 2 iI Tryz.underlying29 hI.out hE.out.1 hE.out.2.2 hE.out.2.1 (.slice (some ⟨g2, 0, none⟩) (j + 1) cap2) (j + 1) (L2) rfl (by simp) hr2.out _ (K2) rfl (by exact hk2.out) (by omega) (by first | omega | (simp; omega) | simp) ?_)
    intro v3 w3 hown3 hgrow3 hnn3
    obtain ⟨g3, cap3, rfl⟩ := nonnil_row hown3 hnn3
    have hb3 : Below w.heap.size w w3 := hb2.grown hgrow3 hs2 (own_block hr2.out)
    have hr3 : Hid (w3.ownsRow w.heap.size 2 1 (.slice (some ⟨g3, 0, none⟩) (j + 1 + (xs.length - j)) cap3) (j + 1 + (xs.length - j)) (L2 ++ K2.map fun n => .int .i64 n)) := hown3
    clear hown3 hgrow3 hnn3
    go_wp2_with fail
    go_ret
    have e1 : j + 1 + (xs.length - j) = xs.length + 1 := by omega
    have q := hr3.out
    rw [e1, ← hL2'.out, ← hL1'.out] at q
    refine ⟨⟨g3, cap3, by rw [e1]; rfl, ?_⟩, hb3⟩
    rw [hsplit.out]
    simpa using q
end Go.Proofs.YtdnembnlomnceaaGreat
