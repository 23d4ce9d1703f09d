/- slices.Insert of the kids of a tree that owns its memory. -/
import Derived.Test.YtfncmndgdomjiaaEdIns
namespace Go.Proofs.Ytfncmndgdomjiaa
open Go.RowKit Go.Deep
theorem flat_take {css : List (List Value)} {c : Nat} (h : ∀ cs ∈ css, cs.length = c) : ∀ i, css.flatten.take (i * c) = (css.take i).flatten := by
  induction css with
  | nil => intro i; simp
  | cons a css ih =>
    intro i
    cases i with
    | zero => simp
    | succ i =>
      have ha : a.length = c := h a List.mem_cons_self
      rw [List.flatten_cons, List.take_succ_cons, List.flatten_cons, List.take_append, List.take_of_length_le (by rw [ha, Nat.succ_mul]; omega), ha, show (i + 1) * c - c = i * c by rw [Nat.succ_mul]; omega, ih (fun cs hc => h cs (List.mem_cons_of_mem _ hc))]
theorem flat_drop {css : List (List Value)} {c : Nat} (h : ∀ cs ∈ css, cs.length = c) : ∀ i, css.flatten.drop (i * c) = (css.drop i).flatten := by
  induction css with
  | nil => intro i; simp
  | cons a css ih =>
    intro i
    cases i with
    | zero => simp
    | succ i =>
      have ha : a.length = c := h a List.mem_cons_self
      rw [List.flatten_cons, List.drop_succ_cons, List.drop_append, List.drop_of_length_le (by rw [ha, Nat.succ_mul]; omega), ha, show (i + 1) * c - c = i * c by rw [Nat.succ_mul]; omega, ih (fun cs hc => h cs (List.mem_cons_of_mem _ hc)), List.nil_append]
/-- a row that is known whole, and the records that lie in it -/
theorem owns_of_items {α : Type} {R : World → List Value → α → List Nat → Prop} {w : World} {g cap : Nat} {T : TypeId} {C : Array Value} {es : List (It α)} {xs : List α} {fs : List Nat} (h : Items 2 R w g 0 T C es xs fs) (hr : RoomB w g cap) (hc : xs.length ≤ cap) : w.ownsRow 0 33 2 (.slice (some ⟨g, 0, none⟩) xs.length cap) xs.length (es.map (·.1)).flatten := by
  obtain ⟨rfl, h1, h2, rfl, h4, h5⟩ := h
  obtain ⟨r1, C', r2, r3⟩ := hr
  rw [h1] at r2
  injection r2 with r2
  injection r2 with r2 r4 _
  subst r2 r4
  simp only [List.length_map] at h2 hc ⊢
  have hcs : ∀ cs ∈ es.map (·.1), cs.length = 2 := fun cs hcs => by
    obtain ⟨e, he, rfl⟩ := List.mem_map.1 hcs
    obtain ⟨j, hj, rfl⟩ := List.getElem_of_mem he
    exact (h5 j hj).1
  have hl := flat_len hcs
  simp only [List.length_map] at hl
  refine ⟨hl, Or.inr ⟨g, cap, C, rfl, Nat.zero_le _, h1, hc, r1, r3, ?_⟩⟩
  apply List.ext_getElem?
  intro j
  rw [List.getElem?_take]
  by_cases hj : j < es.length * 2
  · rw [if_pos hj]
    have e := flat_get hcs (i := j / 2) (m := j % 2) (by simp; omega) (by omega)
    rw [show j / 2 * 2 + j % 2 = j by omega] at e
    rw [e]
    have q := (h5 (j / 2) (by omega)).2.1 (j % 2) (by omega)
    rw [show 0 + j / 2 * 2 + j % 2 = j by omega] at q
    simpa using q
  · rw [if_neg hj, List.getElem?_eq_none (by omega)]
/-- records in a row that is known whole -/
theorem seqOwn_of_owns {α : Type} {R : World → List Value → α → List Nat → Prop} {w : World} {n T : Nat} {v : Value} {es : List (It α)} (hn : es.length = n) (hpos : 0 < n) (h : w.ownsRow 0 T 2 v n (es.map (·.1)).flatten) (hes : ∀ i, (h : i < es.length) → es[i].1.length = 2 ∧ R w es[i].1 es[i].2.1 es[i].2.2) :
    ∃ g cap, v = .slice (some ⟨g, 0, none⟩) n cap ∧ ((g :: (es.map (·.2.2)).flatten).Nodup → SeqOwn 2 R w v (es.map (·.2.1)) (g :: (es.map (·.2.2)).flatten)) := by
  rcases h.2 with ⟨_, q⟩ | ⟨g, cap, cur, rfl, _, h1, h2, h3, h4, h5⟩
  · omega
  have hcs : ∀ cs ∈ es.map (·.1), cs.length = 2 := fun cs hcs => by
    obtain ⟨e, he, rfl⟩ := List.mem_map.1 hcs
    obtain ⟨j, hj, rfl⟩ := List.getElem_of_mem he
    exact (hes j hj).1
  refine ⟨g, cap, rfl, fun hnd => ⟨some ⟨g, 0, none⟩, cap, by simp [hn], ⟨by simp [hn]; omega, by simp [hn]; omega⟩, Or.inr ⟨g, 0, rfl, cur, T, es.map (·.2.2), h1, by simp [hn]; omega, by simp, rfl, hnd, fun i hi hi' => ?_⟩⟩⟩
  simp only [List.length_map] at hi
  obtain ⟨q1, q2⟩ := hes i hi
  refine ⟨es[i].1, q1, fun m hm => ?_, by simpa using q2⟩
  have e := flat_get hcs (i := i) (m := m) (by simpa using hi) hm
  rw [← h5, List.getElem?_take_of_lt (by omega)] at e
  simp only [List.getElem_map] at e
  rw [Nat.zero_add]
  simpa using e
/-- the kids with one more -/
def KidsIns (n : Nat) (w w' : World) (kids : List TD) (i : Nat) (x : TD) (fs fx : List Nat) (e : Ending) : Prop :=
  ∃ (a' : Option Addr) (cap' : Nat) (fs' : List Nat), e = .returned (.slice a' (insK kids i x).length cap') ∧ SeqOwn 2 (TreeO n) w' (.slice a' (insK kids i x).length cap') (insK kids i x) fs' ∧ fs'.Nodup ∧ (∀ b ∈ fs', b ∈ fs ∨ b ∈ fx ∨ b = w.heap.size) ∧ Out fs w w'
theorem insK_length (ks : List TD) (i : Nat) (x : TD) (h : i ≤ ks.length) : (insK ks i x).length = ks.length + 1 := by simp [insK]; omega
theorem insK_map {α : Type} (es : List (It α)) (i : Nat) (e : It α) {β : Type} (f : It α → β) : (es.take i ++ e :: es.drop i).map f = (es.map f).take i ++ f e :: (es.map f).drop i := by simp [List.map_take, List.map_drop]
theorem treeO_one {n : Nat} {w : World} {cs : List Value} {x : TD} {fs : List Nat} (h : TreeO n w cs x fs) : cs.length = 2 ∧ ∀ u ∈ cs, u.oneCell' = true := by
  obtain ⟨k1, e1, hs, _⟩ := h.opened
  obtain ⟨a2, c2, rfl⟩ := hs.form
  subst e1
  refine ⟨rfl, fun u hu => ?_⟩
  simp at hu
  rcases hu with rfl | rfl <;> rfl
theorem kids_insert {n : Nat} {w : World} {a : Option Addr} {cap i vb : Nat} {kids : List TD} {x : TD} {fs fx : List Nat} {u0 u1 : Value} {TV : TypeId} (h : SeqOwn 2 (TreeO n) w (.slice a kids.length cap) kids fs) (hr : (a = none ∧ cap = 0) ∨ ∃ g, a = some ⟨g, 0, none⟩ ∧ 0 < kids.length ∧ RoomB w g cap)
    (hi : i ≤ kids.length) (hl : kids.length ≤ 1000) (hx : TreeO n w [u0, u1] x fx) (hxn : fx.Nodup) (hxf : ∀ b ∈ fx, b ∉ fs) (hv : Box w vb [u0, u1] TV) (hvf : vb ∉ fs) :
    Calls Try.prog 75 #[.slice a kids.length cap, .int .i64 (i : Int), .slice (some ⟨vb, 0, none⟩) 1 1] w fun e w' => KidsIns n w w' kids i x fs fx e := by
  obtain ⟨es, hmap, hown, hone, hR, hfs, hnd, hblk⟩ : ∃ es : List (It TD), es.map (·.2.1) = kids ∧ w.ownsRow 0 33 2 (.slice a kids.length cap) kids.length (es.map (·.1)).flatten ∧ (∀ u ∈ (es.map (·.1)).flatten, u.oneCell' = true) ∧ (∀ i, (h : i < es.length) → es[i].1.length = 2 ∧ TreeO n w es[i].1 es[i].2.1 es[i].2.2) ∧ (∀ b ∈ (es.map (·.2.2)).flatten, b ∈ fs) ∧ (es.map (·.2.2)).flatten.Nodup ∧ ∀ g, (Value.slice a kids.length cap).ownBlock = some g → g ∈ fs ∧ g ∉ (es.map (·.2.2)).flatten := by
    rcases hr with ⟨rfl, rfl⟩ | ⟨g, rfl, hpos, hroom⟩
    · obtain ⟨a', c', e, hm, hx⟩ := h
      have hk0 : kids = [] := List.eq_nil_of_length_eq_zero (by injection e with _ _ e3; omega)
      subst hk0
      exact ⟨[], rfl, World.ownsRow_nil _ _ _ _, by simp, by simp, by simp, by simp, by simp [Value.ownBlock]⟩
    · obtain ⟨a', c', e, ⟨hm, hcap⟩, hx⟩ := h
      injection e with e1 _ e3
      subst e1 e3
      rcases hx with ⟨h0, _⟩ | ⟨b, o, e, hrow⟩
      · omega
      injection e with e
      injection e with e1 e2
      subst e1 e2
      obtain ⟨T, C, es, hit⟩ := hrow.items
      have ho := owns_of_items hit hroom hcap
      obtain ⟨h1, h2, h3, h4, h5, h6⟩ := hit
      subst h4
      rw [List.nodup_cons] at h5
      refine ⟨es, h1, ho, fun u hu => ?_, fun i hi => ⟨(h6 i hi).1, (h6 i hi).2.2⟩, fun b hb => List.mem_cons_of_mem _ hb, h5.2, fun g' e => ?_⟩
      · obtain ⟨cs, hc, hu⟩ := List.mem_flatten.1 hu
        obtain ⟨e, he, rfl⟩ := List.mem_map.1 hc
        obtain ⟨j, hj, rfl⟩ := List.getElem_of_mem he
        exact (treeO_one (h6 j hj).2.2).2 u hu
      · simp only [Value.ownBlock, Option.some.injEq] at e
        subst e
        exact ⟨List.mem_cons_self, h5.1⟩
  have hel : es.length = kids.length := by rw [← hmap, List.length_map]
  have hcs : ∀ cs ∈ es.map (·.1), cs.length = 2 := fun cs hcs => by
    obtain ⟨e, he, rfl⟩ := List.mem_map.1 hcs
    obtain ⟨j, hj, rfl⟩ := List.getElem_of_mem he
    exact (hR j hj).1
  refine (insT_any (u0 := u0) (u1 := u1) hown hi hl (Nat.zero_le _) hone (treeO_one hx).2 hv (fun e => hvf (hblk vb e).1)).mono ?_
  rintro e w' ⟨⟨v', rfl, ho', hb'⟩, hg'⟩
  have hO : Out fs w w' := ⟨hg'.os, hg'.tape, hg'.output, hg'.size, fun k hk hn => hg'.block k hk (fun e => hn (hblk k e.symm).1)⟩
  have hkeep : ∀ b, b < w.heap.size → (∀ g, (Value.slice a kids.length cap).ownBlock = some g → b ≠ g) → w'.heap[b]? = w.heap[b]? := fun b h1 h2 => hg'.block b h1 (fun e => h2 b e.symm rfl)
  have hflat : (es.map (·.1)).flatten.take (i * 2) ++ [u0, u1] ++ (es.map (·.1)).flatten.drop (i * 2) = ((es.take i ++ ([u0, u1], x, fx) :: es.drop i).map (·.1)).flatten := by
    rw [flat_take hcs, flat_drop hcs, insK_map]
    simp
  rw [hflat] at ho'
  have hfx : ∀ b ∈ fx, b < w.heap.size := TreeO_lt n _ _ _ _ hx
  have hfsl : ∀ b ∈ (es.map (·.2.2)).flatten, b < w.heap.size := fun b hb => by
    obtain ⟨l, hl, hbl⟩ := List.mem_flatten.1 hb
    obtain ⟨e, he, rfl⟩ := List.mem_map.1 hl
    obtain ⟨j, hj, rfl⟩ := List.getElem_of_mem he
    exact TreeO_lt n _ _ _ _ (hR j hj).2 b hbl
  have hall : ∀ j, (hj : j < (es.take i ++ (([u0, u1], x, fx) : It TD) :: es.drop i).length) → (es.take i ++ (([u0, u1], x, fx) : It TD) :: es.drop i)[j].1.length = 2 ∧ TreeO n w' (es.take i ++ (([u0, u1], x, fx) : It TD) :: es.drop i)[j].1 (es.take i ++ (([u0, u1], x, fx) : It TD) :: es.drop i)[j].2.1 (es.take i ++ (([u0, u1], x, fx) : It TD) :: es.drop i)[j].2.2 := fun j hj => by
    have hm : (es.take i ++ (([u0, u1], x, fx) : It TD) :: es.drop i)[j] ∈ es.take i ++ (([u0, u1], x, fx) : It TD) :: es.drop i := List.getElem_mem hj
    generalize (es.take i ++ (([u0, u1], x, fx) : It TD) :: es.drop i)[j] = e at hm
    have hm2 : e ∈ es ∨ e = ([u0, u1], x, fx) := by
      rcases List.mem_append.1 hm with q | q
      · exact Or.inl (List.mem_of_mem_take q)
      · rcases List.mem_cons.1 q with q | q
        · exact Or.inr q
        · exact Or.inl (List.mem_of_mem_drop q)
    rcases hm2 with q | rfl
    · obtain ⟨k, hk, rfl⟩ := List.getElem_of_mem q
      obtain ⟨r1, r2⟩ := hR k hk
      refine ⟨r1, TreeO_stays n _ _ _ _ _ (fun b hb => ?_) r2⟩
      have hbf : b ∈ (es.map (·.2.2)).flatten := List.mem_flatten.2 ⟨_, List.mem_map.2 ⟨_, List.getElem_mem hk, rfl⟩, hb⟩
      exact hkeep b (hfsl b hbf) (fun g e h => (hblk g e).2 (h ▸ hbf))
    · exact ⟨rfl, TreeO_stays n _ _ _ _ _ (fun b hb => hkeep b (hfx b hb) (fun g e h => hxf b hb (h ▸ (hblk g e).1))) hx⟩
  have hlen : (es.take i ++ (([u0, u1], x, fx) : It TD) :: es.drop i).length = kids.length + 1 := by simp; omega
  obtain ⟨g', cap', rfl, hso⟩ := seqOwn_of_owns hlen (by omega) ho' hall
  have hm1 : (es.take i ++ (([u0, u1], x, fx) : It TD) :: es.drop i).map (·.2.1) = insK kids i x := by
    rw [insK_map, hmap]; rfl
  have hm2 : ((es.take i ++ (([u0, u1], x, fx) : It TD) :: es.drop i).map (·.2.2)).flatten = ((es.map (·.2.2)).take i).flatten ++ (fx ++ ((es.map (·.2.2)).drop i).flatten) := by
    rw [insK_map]; simp
  have hsp : (es.map (·.2.2)).flatten = ((es.map (·.2.2)).take i).flatten ++ ((es.map (·.2.2)).drop i).flatten := by
    rw [← List.flatten_append, List.take_append_drop]
  rw [hsp, List.nodup_append] at hnd
  obtain ⟨n1, n2, n3⟩ := hnd
  rw [hsp] at hfs hfsl hblk
  have hnd' : (g' :: ((es.take i ++ (([u0, u1], x, fx) : It TD) :: es.drop i).map (·.2.2)).flatten).Nodup := by
    rw [hm2, List.nodup_cons]
    refine ⟨fun q => ?_, List.nodup_append.2 ⟨n1, List.nodup_append.2 ⟨hxn, n2, fun b hb c hc e => ?_⟩, fun b hb c hc e => ?_⟩⟩
    · have hq : g' ∈ ((es.map (·.2.2)).take i).flatten ++ ((es.map (·.2.2)).drop i).flatten ∨ g' ∈ fx := by
        rcases List.mem_append.1 q with q | q
        · exact Or.inl (List.mem_append.2 (Or.inl q))
        · rcases List.mem_append.1 q with q | q
          · exact Or.inr q
          · exact Or.inl (List.mem_append.2 (Or.inr q))
      rcases hb' with e | e
      · simp only [Value.ownBlock] at e
        have e2 := hblk g' e.symm
        rcases hq with q | q
        · exact e2.2 q
        · exact hxf g' q e2.1
      · simp only [Value.ownBlock, Option.some.injEq] at e
        rcases hq with q | q
        · have := hfsl g' q; omega
        · have := hfx g' q; omega
    · subst e
      exact hxf b hb (hfs b (List.mem_append.2 (Or.inr hc)))
    · subst e
      rcases List.mem_append.1 hc with q | q
      · exact hxf b q (hfs b (List.mem_append.2 (Or.inl hb)))
      · exact n3 b hb b q rfl
  have hso' := hso hnd'
  rw [hm1] at hso'
  refine ⟨some ⟨g', 0, none⟩, cap', _, by rw [insK_length _ _ _ hi], by rw [insK_length _ _ _ hi]; exact hso', hnd', fun b hb => ?_, hO⟩
  rw [hm2] at hb
  rcases List.mem_cons.1 hb with rfl | hb
  · rcases hb' with e | e
    · simp only [Value.ownBlock] at e
      exact Or.inl (hblk b e.symm).1
    · simp only [Value.ownBlock, Option.some.injEq] at e
      exact Or.inr (Or.inr e)
  · rcases List.mem_append.1 hb with q | q
    · exact Or.inl (hfs b (List.mem_append.2 (Or.inl q)))
    · rcases List.mem_append.1 q with q | q
      · exact Or.inr (Or.inl q)
      · exact Or.inl (hfs b (List.mem_append.2 (Or.inr q)))
end Go.Proofs.Ytfncmndgdomjiaa
