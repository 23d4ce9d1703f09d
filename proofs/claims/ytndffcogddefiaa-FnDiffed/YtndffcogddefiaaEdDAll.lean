/- What DrawEditedAll tells: some tree, some edits. -/
import Derived.Test.YtndffcogddefiaaEdDraws
import Derived.Test.YtndffcogddefiaaEdSizes
import Derived.Maps.AppendAt
namespace Go.Proofs.Ytndffcogddefiaa
open Go.RowKit Go.Deep
theorem TreeAt.less : ∀ (m : Nat) {n : Nat} {w : World} {lo : Nat} {t k : Value} {d : TD}, TreeAt w lo n t k d → Good m d → TreeAt w lo m t k d := by
  intro m
  induction m with
  | zero => intro n w lo t k d _ h; obtain ⟨_, h⟩ := good_pos h; omega
  | succ m ih =>
    intro n w lo t k d h hg
    cases n with
    | zero => exact h.elim
    | succ n =>
      obtain ⟨h1, a, cap, hk, hm, hx⟩ := h
      refine ⟨h1, a, cap, hk, hm, fun h0 => ?_⟩
      obtain ⟨b, off, e, q1, q2, hc⟩ := hx h0
      refine ⟨b, off, e, q1, q2, fun i hi => ?_⟩
      obtain ⟨t', k', c1, c2, hr⟩ := hc i hi
      refine ⟨t', k', c1, c2, ih hr ?_⟩
      have hin : inB d (i : Int) = true := by simp only [inB, Bool.and_eq_true, decide_eq_true_eq]; omega
      have hgk := good_kid hg hin
      have e2 : kidP d (i : Int) = nth (kidsOf d) i := by unfold kidP; rw [Int.toNat_natCast]
      rw [e2] at hgk
      exact hgk
theorem EdR.low {w w' : World} {o : Option TD} {e : Ending} (h : EdR w w' o e) : ∃ (a : Option Addr) (c n : Nat), e = .returned (.tuple #[.agg #[.string (strT (resTd o)), .slice a (kidsOf (resTd o)).length c], .bool o.isSome]) ∧ TreeAt w' w.heap.size n (.string (strT (resTd o))) (.slice a (kidsOf (resTd o)).length c) (resTd o) ∧ Below w.heap.size w w' := by
  obtain ⟨cs, fs, n, rfl, ho, _, hlo, hb⟩ := h
  obtain ⟨k, rfl, hs, _⟩ := ho.opened
  obtain ⟨a, c, rfl⟩ := hs.form
  exact ⟨a, c, n, rfl, TreeL.at n _ _ _ (TreeO_at (lo := w.heap.size) n _ _ _ _ ho hlo), hb⟩
/-- what may turn: the reader, the result, the tree of now, the row of edits -/
def SM (w : World) (g g7 r : Nat) (b : Nat) : Prop := b = g ∨ b = w.heap.size ∨ b = g7 ∨ b = r
theorem Stab.row {w wx W : World} {g g7 r r' : Nat} {Q : World → Prop} (h : Stab (SM w g g7 r) wx Q) (hz : wx.heap.size ≤ W.heap.size) (hb : ∀ b, b < wx.heap.size → b ≠ r → W.heap[b]? = wx.heap[b]?) (hr : r' = r ∨ wx.heap.size ≤ r') : Stab (SM w g g7 r') W Q := fun W' h1 h2 => h W' (Nat.le_trans hz h1) (fun b q s => by
  have s1 : b ≠ g ∧ b ≠ w.heap.size ∧ b ≠ g7 ∧ b ≠ r := ⟨fun e => s (Or.inl e), fun e => s (Or.inr (Or.inl e)), fun e => s (Or.inr (Or.inr (Or.inl e))), fun e => s (Or.inr (Or.inr (Or.inr e)))⟩
  refine (h2 b (by omega) (fun s2 => ?_)).trans (hb b q s1.2.2.2)
  rcases s2 with e | e | e | e <;> omega)
/-- a draw of edits, under way -/
structure DA (w : World) (g : Nat) (a : Option Addr) (n cap g5 g7 : Nat) (d : TD) (aT : Option Addr) (cT r : Nat) (v : Value) (l : List EditD) (css : List (List Value)) (x : TD) (aN : Option Addr) (cN : Nat) (wx : World) : Prop where
  bR : Box wx w.heap.size [.string ⟨#[]⟩, .slice none 0 0] 26
  b5 : Box wx g5 [.string (strT d), .slice aT (kidsOf d).length cT] 26
  b7 : Box wx g7 [.string (strT x), .slice aN (kidsOf x).length cN] 26
  ht : Stab (SM w g g7 r) wx (fun W => TreeAt W (g + 1) 4 (.string (strT d)) (.slice aT (kidsOf d).length cT) d)
  hx : Stab (SM w g g7 r) wx (fun W => TreeAt W (g + 1) 31 (.string (strT x)) (.slice aN (kidsOf x).length cN) x)
  ro : wx.ownsRow (w.heap.size + 1) 29 5 v l.length css.flatten
  vr : v.ownBlock = some r
  hr1 : g5 < r
  hr2 : r ≠ g7
  hc : css.length = l.length ∧ ∀ cs ∈ css, cs.length = 5
  el : ∀ i, (h : i < l.length) → (h1 : i < css.length) → Stab (SM w g g7 r) wx (fun W => EditAt 4 W 0 css[i] l[i])
  ps : ∀ y ∈ l, y.vPath.length ≤ 33
  rd : RdAt wx g a n cap
  hb : Below w.heap.size w wx
  hg : w.heap.size < g ∧ g < g5 ∧ g5 < g7 ∧ g7 < wx.heap.size ∧ r < wx.heap.size
theorem DA.below {w : World} {g : Nat} {a : Option Addr} {n cap g5 g7 : Nat} {d : TD} {aT : Option Addr} {cT r : Nat} {v : Value} {l : List EditD} {css : List (List Value)} {x : TD} {aN : Option Addr} {cN : Nat} {wx W : World} (h : DA w g a n cap g5 g7 d aT cT r v l css x aN cN wx) (q : Below wx.heap.size wx W) : DA w g a n cap g5 g7 d aT cT r v l css x aN cN W :=
  ⟨h.bR.below q h.bR.lt, h.b5.below q h.b5.lt, h.b7.below q h.b7.lt, h.ht.below q, h.hx.below q, row_below h.ro q, h.vr, h.hr1, h.hr2, h.hc, fun i h1 h2 => (h.el i h1 h2).below q, h.ps, h.rd.below q, h.hb.trans (q.mono h.hb.size), by have := h.hg; have := q.size; omega⟩
theorem DA.grow {w : World} {g : Nat} {a : Option Addr} {n cap g5 g7 : Nat} {d : TD} {aT : Option Addr} {cT r : Nat} {v : Value} {l : List EditD} {css : List (List Value)} {x : TD} {aN : Option Addr} {cN : Nat} {wx W : World} (h : DA w g a n cap g5 g7 d aT cT r v l css x aN cN wx) (hr : RdAt W g a n cap) (hg : wx.grownBy W (some g)) : DA w g a n cap g5 g7 d aT cT r v l css x aN cN W := by
  have h0 := h.hg
  have h1 := h.hr1
  refine ⟨box_other h.bR (by omega) hg, box_other h.b5 (by omega) hg, box_other h.b7 (by omega) hg, h.ht.grow hg (Or.inl rfl), h.hx.grow hg (Or.inl rfl), ?_, h.vr, h.hr1, h.hr2, h.hc, fun i q1 q2 => (h.el i q1 q2).grow hg (Or.inl rfl), h.ps, hr, below_grown h.hb (by omega) hg, by have := hg.size; omega⟩
  obtain ⟨q1, q2⟩ := h.ro
  refine ⟨q1, ?_⟩
  rcases q2 with q | ⟨b, c, cur, rfl, s1, s2, s3⟩
  · exact Or.inl q
  · have e : b = r := by have := h.vr; simpa [Value.ownBlock] using this
    exact Or.inr ⟨b, c, cur, rfl, s1, (hg.block b (Array.getElem?_eq_some_iff.1 s2).1 (fun z => by injection z with z; omega)).trans s2, s3⟩
/-- the tree of now turned -/
theorem DA.turn {w : World} {g : Nat} {a : Option Addr} {n cap g5 g7 : Nat} {d : TD} {aT : Option Addr} {cT r : Nat} {v : Value} {l : List EditD} {css : List (List Value)} {x x' : TD} {aN aM : Option Addr} {cN cM : Nat} {wx : World} (h : DA w g a n cap g5 g7 d aT cT r v l css x aN cN wx) (hx : Stab (SM w g g7 r) wx (fun W => TreeAt W (g + 1) 31 (.string (strT x')) (.slice aM (kidsOf x').length cM) x')) : DA w g a n cap g5 g7 d aT cT r v l css x' aM cM (putCells wx g7 0 [.string (strT x'), .slice aM (kidsOf x').length cM]) := by
  have h0 := h.hg
  have hS : SM w g g7 r g7 := Or.inr (Or.inr (Or.inl rfl))
  refine ⟨(putCells_other _ _ _ _ _ (by omega)).trans h.bR, (putCells_other _ _ _ _ _ (by omega)).trans h.b5, (h.b7.set (i := 0) _).set (i := 1) _, h.ht.puts hS _, hx.puts hS _, ?_, h.vr, h.hr1, h.hr2, h.hc, fun i q1 q2 => (h.el i q1 q2).puts hS _, h.ps, h.rd.keep (fun b hb => putCells_other _ _ _ _ _ (by omega)), putCells_below [.string (strT x'), .slice aM (kidsOf x').length cM] _ _ _ _ _ (by omega) h.hb, by rw [putCells_size]; omega⟩
  obtain ⟨q1, q2⟩ := h.ro
  refine ⟨q1, ?_⟩
  rcases q2 with q | ⟨b, c, cur, rfl, s1, s2, s3⟩
  · exact Or.inl q
  · have e : b = r := by have := h.vr; simpa [Value.ownBlock] using this
    have hr2 := h.hr2
    exact Or.inr ⟨b, c, cur, rfl, s1, (putCells_other _ _ _ _ _ (by omega)).trans s2, s3⟩
/-- one edit more in the row -/
theorem DA.push {w : World} {g : Nat} {a : Option Addr} {n cap g5 g7 : Nat} {d : TD} {aT : Option Addr} {cT r : Nat} {v v' : Value} {l : List EditD} {css : List (List Value)} {x : TD} {aN : Option Addr} {cN : Nat} {wx W : World} {y : EditD} {cs : List Value} (h : DA w g a n cap g5 g7 d aT cT r v l css x aN cN wx) (hy : Stab (SM w g g7 r) wx (fun W => EditAt 4 W 0 cs y)) (hp : y.vPath.length ≤ 33) (hl : cs.length = 5) (ho : W.ownsRow (w.heap.size + 1) 29 5 v' (l.length + 1) (css.flatten ++ cs)) (hg : wx.grownBy W v.ownBlock) (hat : v'.ownBlock = v.ownBlock ∨ v'.ownBlock = some wx.heap.size) :
    ∃ r', DA w g a n cap g5 g7 d aT cT r' v' (l ++ [y]) (css ++ [cs]) x aN cN W := by
  have h0 := h.hg
  have h1 := h.hr1
  have h2 := h.hr2
  rw [h.vr] at hg hat
  obtain ⟨r', hr', hat'⟩ : ∃ r', v'.ownBlock = some r' ∧ (r' = r ∨ wx.heap.size ≤ r') := by
    rcases hat with e | e
    · exact ⟨r, e, Or.inl rfl⟩
    · exact ⟨wx.heap.size, e, Or.inr (Nat.le_refl _)⟩
  have hk : ∀ b, b < wx.heap.size → b ≠ r → W.heap[b]? = wx.heap[b]? := fun b q1 q2 => hg.block b q1 (fun e => by injection e with e; omega)
  have hz := hg.size
  refine ⟨r', box_other h.bR (by omega) hg, box_other h.b5 (by omega) hg, box_other h.b7 (by omega) hg, h.ht.row hz hk hat', h.hx.row hz hk hat', ?_, hr', by omega, by omega, ⟨by rw [List.length_append, List.length_append, h.hc.1]; rfl, fun c q => ?_⟩, fun i q1 q2 => ?_, fun z q => ?_, h.rd.keep (fun b hb => hk b (by omega) (by omega)), below_grown h.hb (by omega) hg, by have := row_lt ho _ hr'; omega⟩
  · rw [List.length_append, List.length_singleton, List.flatten_append, List.flatten_singleton]
    exact ho
  · rcases List.mem_append.1 q with e | e
    · exact h.hc.2 c e
    · rw [List.mem_singleton] at e; rw [e]; exact hl
  · by_cases hi : i < l.length
    · have hi2 : i < css.length := by rw [h.hc.1]; exact hi
      rw [List.getElem_append_left hi, List.getElem_append_left hi2]
      exact (h.el i hi hi2).row hz hk hat'
    · have e : i = l.length := by rw [List.length_append, List.length_singleton] at q1; omega
      subst e
      have e2 : (css ++ [cs])[l.length]'q2 = cs := by simp [← h.hc.1]
      have e3 : (l ++ [y])[l.length]'q1 = y := by simp
      rw [e2, e3]
      exact hy.row hz hk hat'
  · rcases List.mem_append.1 q with e | e
    · exact h.ps z e
    · rw [List.mem_singleton] at e; rw [e]; exact hp
theorem DA.len {w : World} {g : Nat} {a : Option Addr} {n cap g5 g7 : Nat} {d : TD} {aT : Option Addr} {cT r : Nat} {v : Value} {l : List EditD} {css : List (List Value)} {x : TD} {aN : Option Addr} {cN : Nat} {wx : World} (h : DA w g a n cap g5 g7 d aT cT r v l css x aN cN wx) : ∃ c, v = .slice (some ⟨r, 0, none⟩) l.length c := by
  obtain ⟨_, q | ⟨b, c, cur, rfl, _⟩⟩ := h.ro
  · obtain ⟨rfl, _⟩ := q; have := h.vr; cases this
  · have e : b = r := by have := h.vr; simpa [Value.ownBlock] using this
    exact ⟨c, by rw [e]⟩
/-- the row of edits lies there -/
theorem DA.seq {w : World} {g : Nat} {a : Option Addr} {n cap g5 g7 : Nat} {d : TD} {aT : Option Addr} {cT r : Nat} {v : Value} {l : List EditD} {css : List (List Value)} {x : TD} {aN : Option Addr} {cN : Nat} {wx : World} (h : DA w g a n cap g5 g7 d aT cT r v l css x aN cN wx) : Stab (fun b => b = w.heap.size) wx (fun W => SeqAt 5 (EditAt 4) W 0 v l) := by
  intro W k1 k2
  have hg0 := h.hg
  have hr0 := h.hr1
  obtain ⟨hl, ho⟩ := h.ro
  obtain ⟨h1, h3⟩ := h.hc
  rcases ho with ⟨rfl, hn⟩ | ⟨b, c, cur, rfl, hg, hh, q1, q2, q3, q4⟩
  · have := h.vr; cases this
  · have eb : b = r := by have := h.vr; simpa [Value.ownBlock] using this
    have hlt := (Array.getElem?_eq_some_iff.1 hh).1
    have hh' := (k2 b hlt (by show ¬ (b = w.heap.size); omega)).trans hh
    refine ⟨_, _, rfl, ⟨Nat.le_trans q1 q2, q1⟩, fun h0 => ⟨b, 0, rfl, Nat.zero_le _, by omega, fun i hi => ⟨css[i]'(by omega), h3 _ (List.getElem_mem _), fun m hm => ?_, ((h.el i hi (by omega)).less (fun b q => Or.inr (Or.inl q))) W k1 k2⟩⟩⟩
    have hm' : m < 5 := by rw [h3 _ (List.getElem_mem _)] at hm; exact hm
    have e : (cur.toList.take (l.length * 5))[i * 5 + m]? = (css[i]'(by omega))[m]? := by rw [q4]; exact flat_get h3 (by omega) hm'
    have hlt : i * 5 + m < l.length * 5 := by omega
    rw [List.getElem?_take_of_lt hlt] at e
    rw [Nat.zero_add, blk_cell hh']
    simpa using e
theorem infoEd : ((Try.prog.info? 29).map fun i => (i.zero, i.size, i.bytes)) = some (some (.agg #[.int .i64 0, .slice none 0 0, .string ByteArray.empty, .string ByteArray.empty, .slice none 0 0]), 5, 88) := by kernel_rfl
/-- a tree and some edits, drawn -/
def DrawnAll (w' : World) (e : Ending) : Prop := ∃ (t k v : Value) (d : TD) (l : List EditD), e = .returned (.tuple #[.agg #[t, k], v]) ∧ TreeAt w' 0 4 t k d ∧ SeqAt 5 (EditAt 4) w' 0 v l ∧ l.length ≤ 6 ∧ ∀ y ∈ l, y.vPath.length ≤ 33
set_option maxRecDepth 100000 in
set_option maxHeartbeats 8000000 in
theorem drawEditedAll_any {w : World} {a : Option Addr} {n cap : Nat} (h : CodeAt w a n) :
    Calls Try.prog 25 #[.slice a n cap] w fun e w' => DrawnAll w' e ∧ Below w.heap.size w w' := by
  have h' : Hid (CodeAt w a n) := h
  clear h
  obtain ⟨iT, hiT0, heT0, heT1, heT2⟩ := info_parts infoEd
  have hiT : Hid (Try.prog.info? 29 = some iT) := hiT0
  have heT : Hid (iT.zero = some (.agg #[.int .i64 0, .slice none 0 0, .string ByteArray.empty, .string ByteArray.empty, .slice none 0 0]) ∧ iT.size = 5 ∧ iT.bytes = 88) := ⟨heT0, heT1, heT2⟩
  clear hiT0 heT0 heT1 heT2
  have hb0 : Hid (Below w.heap.size w (w.alloc (.cells #[.string ⟨#[]⟩, .slice none 0 0] 26))) := (Below.refl _ _).alloc (Nat.le_refl _) _
  have bR0 : Hid (Box (w.alloc (.cells #[.string ⟨#[]⟩, .slice none 0 0] 26)) w.heap.size [.string ⟨#[]⟩, .slice none 0 0] 26) := Box.new w [.string ⟨#[]⟩, .slice none 0 0] 26
  go_enter Try.func25, Try.ntmps25
  go_wp2_with fail
  refine (open_any (CodeAt.below h'.out hb0.out)).mono ?_
  rintro e w1 ⟨g, rfl, hg, hr1, hb1⟩
  have hr1' : Hid (RdAt w1 g a n cap) := hr1
  have hg' : w.heap.size + 1 ≤ g := by simpa using hg
  have hB1 : Hid (Below w.heap.size w w1) := hb0.out.trans (hb1.mono hb0.out.size)
  have bR1 : Hid (Box w1 w.heap.size [.string ⟨#[]⟩, .slice none 0 0] 26) := bR0.out.below hb1 bR0.out.lt
  have hlt1 := hr1.lt
  clear hr1 hb1 hg bR0 hb0 h'
  go_wp2_with fail
  refine (drT_all 4 (by omega) (by omega) w1 g a n cap 1 hr1'.out (by omega)).mono ?_
  rintro e w2 ⟨cs, d, fs, rfl, hok, hnd, hlo, hr2, hg2⟩
  have hB2 : Hid (Below w.heap.size w w2) := below_grown hB1.out (by omega) hg2
  have bR2 : Hid (Box w2 w.heap.size [.string ⟨#[]⟩, .slice none 0 0] 26) := box_other bR1.out (by omega) hg2
  have hr2' : Hid (RdAt w2 g a n cap) := hr2
  obtain ⟨t0, k0, e, q⟩ := TreeOwn_at (lo := w1.heap.size + 1) 4 _ _ _ _ hok hlo
  obtain ⟨rfl, _⟩ := q.tag
  obtain ⟨_, aT, cT, rfl⟩ := q.form
  subst e
  have ht2 : Hid (TreeAt w2 (w1.heap.size + 1) 4 (.string (strT d)) (.slice aT (kidsOf d).length cT) d) := q
  have hz2 := hg2.size
  clear hok hnd hlo hr2 hg2 q bR1 hB1 hr1'
  obtain ⟨g5, hg5⟩ : ∃ g5, w2.heap.size = g5 := ⟨_, rfl⟩
  have key : Hid (DA w g a n cap g5 (g5 + 1 + 1) d aT cT (g5 + 1) (.slice (some ⟨g5 + 1, 0, none⟩) 0 0) [] [] d aT cT (((w2.alloc (.cells #[.string (strT d), .slice aT (kidsOf d).length cT] 26)).alloc (.cells #[] 29)).alloc (.cells #[.string (strT d), .slice aT (kidsOf d).length cT] 26))) := by
    subst hg5
    have q1 : Below w2.heap.size w2 (w2.alloc (.cells #[.string (strT d), .slice aT (kidsOf d).length cT] 26)) := (Below.refl _ _).alloc (Nat.le_refl _) _
    have q2 : Below w2.heap.size w2 ((w2.alloc (.cells #[.string (strT d), .slice aT (kidsOf d).length cT] 26)).alloc (.cells #[] 29)) := q1.alloc q1.size _
    have q3 : Below w2.heap.size w2 (((w2.alloc (.cells #[.string (strT d), .slice aT (kidsOf d).length cT] 26)).alloc (.cells #[] 29)).alloc (.cells #[.string (strT d), .slice aT (kidsOf d).length cT] 26)) := q2.alloc q2.size _
    have hS : ∀ b, w1.heap.size + 1 ≤ b → b < w2.heap.size → ¬ SM w g (w2.heap.size + 1 + 1) (w2.heap.size + 1) b := fun b h1 h2 h3 => by rcases h3 with h3 | h3 | h3 | h3 <;> omega
    have b7 : Box (((w2.alloc (.cells #[.string (strT d), .slice aT (kidsOf d).length cT] 26)).alloc (.cells #[] 29)).alloc (.cells #[.string (strT d), .slice aT (kidsOf d).length cT] 26)) (w2.heap.size + 1 + 1) [.string (strT d), .slice aT (kidsOf d).length cT] 26 := by
      have z := Box.new ((w2.alloc (.cells #[.string (strT d), .slice aT (kidsOf d).length cT] 26)).alloc (.cells #[] 29)) [.string (strT d), .slice aT (kidsOf d).length cT] 26
      simp only [World.size_alloc] at z
      exact z
    refine ⟨bR2.out.below q3 bR2.out.lt, ((Box.new w2 [.string (strT d), .slice aT (kidsOf d).length cT] 26).alloc _).alloc _, b7, ?_, ?_, ?_, rfl, by omega, by omega, ⟨rfl, by simp⟩, fun i h1 => absurd h1 (by simp), by simp, hr2'.out.below q3, hB2.out.trans (q3.mono hB2.out.size), by simp only [World.size_alloc]; omega⟩
    · exact fun W h1 h2 => TreeAt.keep (w := w2) (Nat.le_trans q3.size h1) (by omega) (fun b z1 z2 => (h2 b (Nat.lt_of_lt_of_le z2 q3.size) (hS b z1 z2)).trans (q3.block b z2)) 4 _ _ _ ht2.out
    · exact fun W h1 h2 => TreeAt.keep (w := w2) (Nat.le_trans q3.size h1) (by omega) (fun b z1 z2 => (h2 b (Nat.lt_of_lt_of_le z2 q3.size) (hS b z1 z2)).trans (q3.block b z2)) 31 _ _ _ (TreeAt.mono (by omega) ht2.out)
    · have hbx : Box ((w2.alloc (.cells #[.string (strT d), .slice aT (kidsOf d).length cT] 26)).alloc (.cells #[] 29)) (w2.heap.size + 1) [] 29 := by
        have z := Box.new (w2.alloc (.cells #[.string (strT d), .slice aT (kidsOf d).length cT] 26)) [] 29
        simp only [World.size_alloc] at z
        exact z
      exact ⟨rfl, Or.inr ⟨_, _, #[], rfl, by omega, (hbx.alloc _), Nat.le_refl _, Nat.zero_le _, rfl, rfl⟩⟩
  clear ht2 hr2' bR2 hB2
  go_wp2_with fail
  generalize hg7 : g5 + 1 + 1 = g7 at key ⊢
  generalize hr0 : g5 + 1 = r0 at key ⊢
  refine (below_any (by exact key.out.rd) 6 (by omega) (by omega)).mono ?_
  rintro e w3 ⟨k0, rfl, hk0, hk6, hr3, hg3⟩
  obtain ⟨k, rfl⟩ : ∃ k : Nat, k0 = (k : Int) := ⟨k0.toNat, by omega⟩
  have hA3 : Hid (DA w g a n cap g5 g7 d aT cT r0 (.slice (some ⟨r0, 0, none⟩) ([] : List EditD).length 0) [] [] d aT cT w3) := key.out.grow hr3 hg3
  have hk5 : Hid (([] : List EditD).length + k ≤ 5) := by show 0 + k ≤ 5; omega
  clear hr3 hg3 key hg5 hg7 hr0 hlt1 hg' hz2 hk6 hk0
  go_wp2_with fail
  go_loopw [6, 8] (fun v i wr => ∃ (r cv k : Nat) (l : List EditD) (css : List (List Value)) (x : TD) (aN : Option Addr) (cN : Nat), v = .slice (some ⟨r, 0, none⟩) l.length cv ∧ i = .int .i64 k ∧ Hid (l.length + k ≤ 5) ∧ Hid (DA w g a n cap g5 g7 d aT cT r (.slice (some ⟨r, 0, none⟩) l.length cv) l css x aN cN wr)) (fun _ i _ => (intOf i).toNat)
  case atStart => exact ⟨r0, 0, k, [], [], d, aT, cT, rfl, rfl, hk5, hA3⟩
  case round =>
    obtain ⟨r, cv, k, l, css, x, aN, cN, rfl, rfl, hll, hA⟩ := hrel
    clear hA3 hk5
    have hrlt := hA.out.hg
    by_cases hk : 0 < k
    · have hkI : (0 : Int) < (k : Int) := by omega
      have c0 := hA.out.b7.cell 0 rfl
      have c1 := hA.out.b7.cell 1 rfl
      go_wp2_with fail
      refine (edit_any (by exact hA.out.rd) (by exact hA.out.hx.here) (Nat.lt_succ_self g) (by omega)).mono ?_
      rintro e wq ⟨⟨cs, y, rfl, hE, hyl⟩, hrq, hgq⟩
      obtain ⟨ap, cp, a9, c9, rfl, _, _, _⟩ := hE.here.form
      have hr2 := hA.out.hr2
      have hY0 : Hid (Stab (SM w g g7 r) wq (fun W => EditAt 4 W 0 [.int .i64 y.vKind, .slice ap y.vPath.length cp, .string y.vTag, .string (strT y.vTree), .slice a9 (kidsOf y.vTree).length c9] y)) := hE.less (fun b q => by rcases q with q | q | q | q <;> (show b < _; omega))
      have hA0 : Hid (DA w g a n cap g5 g7 d aT cT r (.slice (some ⟨r, 0, none⟩) l.length cv) l css x aN cN wq) := hA.out.grow hrq hgq
      have hYp : Hid (y.vPath.length ≤ 33) := hyl
      have hsq := hgq.size
      clear hE hyl hrq hgq hA c0 c1
      have hal : Below wq.heap.size wq (wq.alloc (.cells #[.int .i64 y.vKind, .slice ap y.vPath.length cp, .string y.vTag, .string (strT y.vTree), .slice a9 (kidsOf y.vTree).length c9] 29)) := (Below.refl _ _).alloc (Nat.le_refl _) _
      have hA1 : Hid (DA w g a n cap g5 g7 d aT cT r (.slice (some ⟨r, 0, none⟩) l.length cv) l css x aN cN (wq.alloc (.cells #[.int .i64 y.vKind, .slice ap y.vPath.length cp, .string y.vTag, .string (strT y.vTree), .slice a9 (kidsOf y.vTree).length c9] 29))) := hA0.out.below hal
      have hY1 : Hid (Stab (SM w g g7 r) (wq.alloc (.cells #[.int .i64 y.vKind, .slice ap y.vPath.length cp, .string y.vTag, .string (strT y.vTree), .slice a9 (kidsOf y.vTree).length c9] 29)) (fun W => EditAt 4 W 0 [.int .i64 y.vKind, .slice ap y.vPath.length cp, .string y.vTag, .string (strT y.vTree), .slice a9 (kidsOf y.vTree).length c9] y)) := hY0.out.below hal
      have b91 : Hid (Box (wq.alloc (.cells #[.int .i64 y.vKind, .slice ap y.vPath.length cp, .string y.vTag, .string (strT y.vTree), .slice a9 (kidsOf y.vTree).length c9] 29)) wq.heap.size [.int .i64 y.vKind, .slice ap y.vPath.length cp, .string y.vTag, .string (strT y.vTree), .slice a9 (kidsOf y.vTree).length c9] 29) := Box.new wq _ _
      clear hA0 hY0 hal
      have c0 := hA1.out.b7.cell 0 rfl
      have c1 := hA1.out.b7.cell 1 rfl
      have e0 := b91.out.cell 0 rfl
      have e1 := b91.out.cell 1 rfl
      have e2 := b91.out.cell 2 rfl
      have e3 := b91.out.cell 3 rfl
      have e4 := b91.out.cell 4 rfl
      go_wp2_with fail
      refine (specEdited_any (TreeAt.keep (Nat.le_refl _) (Nat.zero_le (g + 1)) (fun _ _ _ => rfl) 31 _ _ _ hA1.out.hx.here) hY1.out.here).mono ?_
      obtain ⟨o, ho⟩ : ∃ o, editedD x y = o := ⟨_, rfl⟩
      rw [ho]
      rintro e w5 hR
      obtain ⟨aM, cM, nM, rfl, hT5, hb5⟩ := EdR.low hR
      have hA5 : Hid (DA w g a n cap g5 g7 d aT cT r (.slice (some ⟨r, 0, none⟩) l.length cv) l css x aN cN w5) := hA1.out.below hb5
      have hY5 : Hid (Stab (SM w g g7 r) w5 (fun W => EditAt 4 W 0 [.int .i64 y.vKind, .slice ap y.vPath.length cp, .string y.vTag, .string (strT y.vTree), .slice a9 (kidsOf y.vTree).length c9] y)) := hY1.out.below hb5
      have b95 : Hid (Box w5 wq.heap.size [.int .i64 y.vKind, .slice ap y.vPath.length cp, .string y.vTag, .string (strT y.vTree), .slice a9 (kidsOf y.vTree).length c9] 29) := b91.out.below hb5 b91.out.lt
      have hN5 : Hid (Stab (SM w g g7 r) w5 (fun W => TreeAt W (g + 1) nM (.string (strT (resTd o))) (.slice aM (kidsOf (resTd o)).length cM) (resTd o))) := fun W h1 h2 => TreeAt.keep h1 (by simp only [World.size_alloc]; omega) (fun b q1 q2 => h2 b q2 (fun q => by simp only [World.size_alloc] at q1; rcases q with q | q | q | q <;> omega)) nM _ _ _ hT5
      have hoh : Hid (editedD x y = o) := ho
      have hs5 : wq.heap.size < w5.heap.size := b95.out.lt
      clear hR hT5 hb5 hA1 hY1 b91 c0 c1 e0 e1 e2 e3 e4 ho
      have hA6 : Hid (DA w g a n cap g5 g7 d aT cT r (.slice (some ⟨r, 0, none⟩) l.length cv) l css x aN cN (w5.alloc (.cells #[.string (strT (resTd o)), .slice aM (kidsOf (resTd o)).length cM] 26))) := hA5.out.below ((Below.refl _ _).alloc (Nat.le_refl _) _)
      have hY6 : Hid (Stab (SM w g g7 r) (w5.alloc (.cells #[.string (strT (resTd o)), .slice aM (kidsOf (resTd o)).length cM] 26)) (fun W => EditAt 4 W 0 [.int .i64 y.vKind, .slice ap y.vPath.length cp, .string y.vTag, .string (strT y.vTree), .slice a9 (kidsOf y.vTree).length c9] y)) := hY5.out.below ((Below.refl _ _).alloc (Nat.le_refl _) _)
      have b96 : Hid (Box (w5.alloc (.cells #[.string (strT (resTd o)), .slice aM (kidsOf (resTd o)).length cM] 26)) wq.heap.size [.int .i64 y.vKind, .slice ap y.vPath.length cp, .string y.vTag, .string (strT y.vTree), .slice a9 (kidsOf y.vTree).length c9] 29) := b95.out.alloc _
      have b16 : Hid (Box (w5.alloc (.cells #[.string (strT (resTd o)), .slice aM (kidsOf (resTd o)).length cM] 26)) w5.heap.size [.string (strT (resTd o)), .slice aM (kidsOf (resTd o)).length cM] 26) := Box.new w5 _ _
      have hN6 : Hid (Stab (SM w g g7 r) (w5.alloc (.cells #[.string (strT (resTd o)), .slice aM (kidsOf (resTd o)).length cM] 26)) (fun W => TreeAt W (g + 1) nM (.string (strT (resTd o))) (.slice aM (kidsOf (resTd o)).length cM) (resTd o))) := hN5.out.below ((Below.refl _ _).alloc (Nat.le_refl _) _)
      clear hA5 hY5 b95 hN5
      go_upto_if 33 with fail
      generalize (w5.alloc (.cells #[.string (strT (resTd o)), .slice aM (kidsOf (resTd o)).length cM] 26)) = w6 at hA6 hY6 b96 b16 hN6 ⊢
      generalize hg10 : w5.heap.size = g10 at b16 hs5 ⊢
      have hw1 : IntKind.i64.wrap ((k : Int) - 1) = (k : Int) - 1 := by rw [IntKind.wrap_i64]; have := hll.out; omega
      rcases (by cases o.isSome <;> simp : o.isSome = false ∨ o.isSome = true) with hsb | hsb
      · rw [hsb]
        go_wp2_with fail
        go_roundw
        case rel =>
          have := hll.out
          exact ⟨r, cv, k - 1, l, css, x, aN, cN, rfl, by rw [show ((k - 1 : Nat) : Int) = (k : Int) - 1 by omega], by show _ ≤ _; omega, hA6⟩
        case measure => simp [intOf]; omega
      · rw [hsb]
        obtain ⟨x5, hx5⟩ := Option.isSome_iff_exists.1 hsb
        have hres : resTd o = x5 := by rw [hx5]; rfl
        have hgd : Good 31 x5 := treeB_good (edited_facts (hoh.out.trans hx5)).2.1
        rw [hres] at b16 hN6 ⊢
        have hN7 : Hid (Stab (SM w g g7 r) w6 (fun W => TreeAt W (g + 1) 31 (.string (strT x5)) (.slice aM (kidsOf x5).length cM) x5)) := fun W h1 h2 => TreeAt.less 31 (hN6.out W h1 h2) hgd
        have hA8 : Hid (DA w g a n cap g5 g7 d aT cT r (.slice (some ⟨r, 0, none⟩) l.length cv) l css x5 aM cM (World.setCell (World.setCell w6 ⟨g7, 0, none⟩ (.string (strT x5))) ⟨g7, 1, none⟩ (.slice aM (kidsOf x5).length cM))) := DA.turn hA6.out hN7.out
        have hY8 : Hid (Stab (SM w g g7 r) (World.setCell (World.setCell w6 ⟨g7, 0, none⟩ (.string (strT x5))) ⟨g7, 1, none⟩ (.slice aM (kidsOf x5).length cM)) (fun W => EditAt 4 W 0 [.int .i64 y.vKind, .slice ap y.vPath.length cp, .string y.vTag, .string (strT y.vTree), .slice a9 (kidsOf y.vTree).length c9] y)) := hY6.out.puts (o := 0) (Or.inr (Or.inr (Or.inl rfl))) [.string (strT x5), .slice aM (kidsOf x5).length cM]
        have hrl := hA6.out.hg
        have b98 : Hid (Box (World.setCell (World.setCell w6 ⟨g7, 0, none⟩ (.string (strT x5))) ⟨g7, 1, none⟩ (.slice aM (kidsOf x5).length cM)) wq.heap.size [.int .i64 y.vKind, .slice ap y.vPath.length cp, .string y.vTag, .string (strT y.vTree), .slice a9 (kidsOf y.vTree).length c9] 29) := (putCells_other [.string (strT x5), .slice aM (kidsOf x5).length cM] w6 g7 0 _ (by omega)).trans b96.out
        have c0 := b16.out.cell 0 rfl
        have c1 := b16.out.cell 1 rfl
        have d0 := hA6.out.b7.cell 0 rfl
        have d1 := hA6.out.b7.cell 1 rfl
        have df := hA6.out.b7.unfrozen
        clear hN6 hN7 hgd hx5 hsb hres hoh
        go_upto_region 12 with fail
        clear hA6 hY6 b96 b16 c0 c1 d0 d1 df
        generalize (World.setCell (World.setCell w6 ⟨g7, 0, none⟩ (.string (strT x5))) ⟨g7, 1, none⟩ (.slice aM (kidsOf x5).length cM)) = wz at hA8 hY8 b98 ⊢
        have e0 := b98.out.cell 0 rfl
        have e1 := b98.out.cell 1 rfl
        have e2 := b98.out.cell 2 rfl
        have e3 := b98.out.cell 3 rfl
        have e4 := b98.out.cell 4 rfl
        have hnw : Hid (∀ i u, ([.int .i64 y.vKind, .slice ap y.vPath.length cp, .string y.vTag, .string (strT y.vTree), .slice a9 (kidsOf y.vTree).length c9] : List Value)[i]? = some u → (World.alloc wz (.cells #[.int .i64 y.vKind, .slice ap y.vPath.length cp, .string y.vTag, .string (strT y.vTree), .slice a9 (kidsOf y.vTree).length c9] 29)).cell? ((⟨wz.heap.size, 0, none⟩ : Addr).add i) = some u) := fun i u hu => by rw [add_lit, Nat.zero_add]; exact (Box.new wz [.int .i64 y.vKind, .slice ap y.vPath.length cp, .string y.vTag, .string (strT y.vTree), .slice a9 (kidsOf y.vTree).length c9] 29).cell i hu
        have hone : Hid (∀ u ∈ ([.int .i64 y.vKind, .slice ap y.vPath.length cp, .string y.vTag, .string (strT y.vTree), .slice a9 (kidsOf y.vTree).length c9] : List Value), u.oneCell' = true) := by intro u hu; simp only [List.mem_cons, List.not_mem_nil, or_false] at hu; rcases hu with rfl | rfl | rfl | rfl | rfl <;> rfl
        have hA7 : Hid (DA w g a n cap g5 g7 d aT cT r (.slice (some ⟨r, 0, none⟩) l.length cv) l css x5 aM cM (World.alloc wz (.cells #[.int .i64 y.vKind, .slice ap y.vPath.length cp, .string y.vTag, .string (strT y.vTree), .slice a9 (kidsOf y.vTree).length c9] 29))) := hA8.out.below ((Below.refl _ wz).alloc (Nat.le_refl _) _)
        have hY7 : Hid (Stab (SM w g g7 r) (World.alloc wz (.cells #[.int .i64 y.vKind, .slice ap y.vPath.length cp, .string y.vTag, .string (strT y.vTree), .slice a9 (kidsOf y.vTree).length c9] 29)) (fun W => EditAt 4 W 0 [.int .i64 y.vKind, .slice ap y.vPath.length cp, .string y.vTag, .string (strT y.vTree), .slice a9 (kidsOf y.vTree).length c9] y)) := hY8.out.below ((Below.refl _ wz).alloc (Nat.le_refl _) _)
        clear hA8 hY8
        go_wp2_with (at_builtin; refine wpList_append_own_at (World.alloc wz (.cells #[.int .i64 y.vKind, .slice ap y.vPath.length cp, .string y.vTag, .string (strT y.vTree), .slice a9 (kidsOf y.vTree).length c9] 29)) rfl _ _ 44 rfl (w.heap.size + 1) 29 iT _ 5 88 Try.underlying44 hiT.out heT.out.1 heT.out.2.1 heT.out.2.2 rfl (by decide) (.slice (some ⟨r, 0, none⟩) l.length cv) l.length css.flatten rfl hA7.out.ro ⟨wz.heap.size, 0, none⟩ 1 1 [.int .i64 y.vKind, .slice ap y.vPath.length cp, .string y.vTag, .string (strT y.vTree), .slice a9 (kidsOf y.vTree).length c9] rfl rfl hnw.out hone.out (by have := hll.out; unfold maxLen; omega) (by have := hll.out; omega) (by have := hA7.out.hb.size; have := hA7.out.hg; omega) ?_; intro v9 w9 ho9 hg9 _ hat9; obtain ⟨r9, hA9⟩ := DA.push hA7.out hY7.out hYp.out rfl ho9 hg9 hat9; have hA9h : Hid (DA w g a n cap g5 g7 d aT cT r9 v9 (l ++ [y]) (css ++ [[.int .i64 y.vKind, .slice ap y.vPath.length cp, .string y.vTag, .string (strT y.vTree), .slice a9 (kidsOf y.vTree).length c9]]) x5 aM cM w9) := hA9; clear ho9 hg9 hat9 hA9 hA7 hY7 hnw hone)
        go_roundw
        case rel =>
          have := hll.out
          obtain ⟨c9', hc9'⟩ := DA.len hA9h.out
          subst hc9'
          exact ⟨r9, c9', k - 1, l ++ [y], css ++ [[.int .i64 y.vKind, .slice ap y.vPath.length cp, .string y.vTag, .string (strT y.vTree), .slice a9 (kidsOf y.vTree).length c9]], x5, aM, cM, rfl, by rw [show ((k - 1 : Nat) : Int) = (k : Int) - 1 by omega], by show _ ≤ _; rw [List.length_append, List.length_singleton]; omega, hA9h⟩
        case measure => simp [intOf]; omega
    · obtain rfl : k = 0 := by omega
      go_wp2_with fail
      refine (once_any (by exact hA.out.rd) 12 (by omega) (by omega)).mono ?_
      rintro e w3 ⟨b3, rfl, hr3, hg3⟩
      have hA3 : Hid (DA w g a n cap g5 g7 d aT cT r (.slice (some ⟨r, 0, none⟩) l.length cv) l css x aN cN w3) := hA.out.grow hr3 hg3
      clear hr3 hg3 hA
      go_upto_if 40 with fail
      go_cut [6] from 7 (fun v wx => ∃ (r cv : Nat) (l : List EditD) (css : List (List Value)), v = .slice (some ⟨r, 0, none⟩) l.length cv ∧ Hid (l.length ≤ 6) ∧ Hid (DA w g a n cap g5 g7 d aT cT r (.slice (some ⟨r, 0, none⟩) l.length cv) l css x aN cN wx))
      case first =>
        have hl5 := hll.out
        rcases (by cases b3 <;> simp : b3 = false ∨ b3 = true) with hb | hb
        · rw [hb]
          go_wp2_with fail
          go_meet
          exact ⟨r, cv, l, css, rfl, (by show _ ≤ _; omega), hA3⟩
        · rw [hb]
          have c0 := hA3.out.b5.cell 0 rfl
          have c1 := hA3.out.b5.cell 1 rfl
          go_wp2_with fail
          refine (edit_any (by exact hA3.out.rd) (by exact hA3.out.ht.here) (Nat.lt_succ_self g) (by omega)).mono ?_
          rintro e wq ⟨⟨cs, y, rfl, hE, hyl⟩, hrq, hgq⟩
          obtain ⟨ap, cp, a9, c9, rfl, _, _, _⟩ := hE.here.form
          have hr2 := hA3.out.hr2
          have hrl3 := hA3.out.hg
          have hY0 : Hid (Stab (SM w g g7 r) wq (fun W => EditAt 4 W 0 [.int .i64 y.vKind, .slice ap y.vPath.length cp, .string y.vTag, .string (strT y.vTree), .slice a9 (kidsOf y.vTree).length c9] y)) := hE.less (fun b q => by rcases q with q | q | q | q <;> (show b < _; omega))
          have hA0 : Hid (DA w g a n cap g5 g7 d aT cT r (.slice (some ⟨r, 0, none⟩) l.length cv) l css x aN cN wq) := hA3.out.grow hrq hgq
          have hYp : Hid (y.vPath.length ≤ 33) := by show _ ≤ _; omega
          clear hE hyl hrq hgq hA3 c0 c1
          have hnw : Hid (∀ i u, ([.int .i64 y.vKind, .slice ap y.vPath.length cp, .string y.vTag, .string (strT y.vTree), .slice a9 (kidsOf y.vTree).length c9] : List Value)[i]? = some u → (World.alloc wq (.cells #[.int .i64 y.vKind, .slice ap y.vPath.length cp, .string y.vTag, .string (strT y.vTree), .slice a9 (kidsOf y.vTree).length c9] 29)).cell? ((⟨wq.heap.size, 0, none⟩ : Addr).add i) = some u) := fun i u hu => by rw [add_lit, Nat.zero_add]; exact (Box.new wq [.int .i64 y.vKind, .slice ap y.vPath.length cp, .string y.vTag, .string (strT y.vTree), .slice a9 (kidsOf y.vTree).length c9] 29).cell i hu
          have hone : Hid (∀ u ∈ ([.int .i64 y.vKind, .slice ap y.vPath.length cp, .string y.vTag, .string (strT y.vTree), .slice a9 (kidsOf y.vTree).length c9] : List Value), u.oneCell' = true) := by intro u hu; simp only [List.mem_cons, List.not_mem_nil, or_false] at hu; rcases hu with rfl | rfl | rfl | rfl | rfl <;> rfl
          have hA7 : Hid (DA w g a n cap g5 g7 d aT cT r (.slice (some ⟨r, 0, none⟩) l.length cv) l css x aN cN (World.alloc wq (.cells #[.int .i64 y.vKind, .slice ap y.vPath.length cp, .string y.vTag, .string (strT y.vTree), .slice a9 (kidsOf y.vTree).length c9] 29))) := hA0.out.below ((Below.refl _ wq).alloc (Nat.le_refl _) _)
          have hY7 : Hid (Stab (SM w g g7 r) (World.alloc wq (.cells #[.int .i64 y.vKind, .slice ap y.vPath.length cp, .string y.vTag, .string (strT y.vTree), .slice a9 (kidsOf y.vTree).length c9] 29)) (fun W => EditAt 4 W 0 [.int .i64 y.vKind, .slice ap y.vPath.length cp, .string y.vTag, .string (strT y.vTree), .slice a9 (kidsOf y.vTree).length c9] y)) := hY0.out.below ((Below.refl _ wq).alloc (Nat.le_refl _) _)
          clear hA0 hY0
          go_wp2_with (at_builtin; refine wpList_append_own_at (World.alloc wq (.cells #[.int .i64 y.vKind, .slice ap y.vPath.length cp, .string y.vTag, .string (strT y.vTree), .slice a9 (kidsOf y.vTree).length c9] 29)) rfl _ _ 44 rfl (w.heap.size + 1) 29 iT _ 5 88 Try.underlying44 hiT.out heT.out.1 heT.out.2.1 heT.out.2.2 rfl (by decide) (.slice (some ⟨r, 0, none⟩) l.length cv) l.length css.flatten rfl hA7.out.ro ⟨wq.heap.size, 0, none⟩ 1 1 [.int .i64 y.vKind, .slice ap y.vPath.length cp, .string y.vTag, .string (strT y.vTree), .slice a9 (kidsOf y.vTree).length c9] rfl rfl hnw.out hone.out (by have := hll.out; unfold maxLen; omega) (by have := hll.out; omega) (by have := hA7.out.hb.size; have := hA7.out.hg; omega) ?_; intro v9 w9 ho9 hg9 _ hat9; obtain ⟨r9, hA9⟩ := DA.push hA7.out hY7.out hYp.out rfl ho9 hg9 hat9; have hA9h : Hid (DA w g a n cap g5 g7 d aT cT r9 v9 (l ++ [y]) (css ++ [[.int .i64 y.vKind, .slice ap y.vPath.length cp, .string y.vTag, .string (strT y.vTree), .slice a9 (kidsOf y.vTree).length c9]]) x aN cN w9) := hA9; clear ho9 hg9 hat9 hA9 hA7 hY7 hnw hone)
          go_meet
          obtain ⟨c9', hc9'⟩ := DA.len hA9h.out
          subst hc9'
          exact ⟨r9, c9', l ++ [y], css ++ [[.int .i64 y.vKind, .slice ap y.vPath.length cp, .string y.vTag, .string (strT y.vTree), .slice a9 (kidsOf y.vTree).length c9]], rfl, (by show _ ≤ _; rw [List.length_append, List.length_singleton]; omega), hA9h⟩
      case rest =>
        obtain ⟨r, cv, l, css, rfl, hl6, hA⟩ := hcut
        clear hA3 hll hrlt
        have c0 := hA.out.b5.cell 0 rfl
        have c1 := hA.out.b5.cell 1 rfl
        have d0 := hA.out.bR.cell 0 rfl
        have d1 := hA.out.bR.cell 1 rfl
        have df := hA.out.bR.unfrozen
        have hh := hA.out.hg
        go_wp2_with fail
        have z := (hA.out.bR.set (i := 0) (.string (strT d))).set (i := 1) (.slice aT (kidsOf d).length cT)
        have z0 := z.cell 0 rfl
        have z1 := z.cell 1 rfl
        have hR : SM w g g7 r w.heap.size := Or.inr (Or.inl rfl)
        refine bodyPost_ret (v := .tuple #[.agg #[.string (strT d), .slice aT (kidsOf d).length cT], .slice (some ⟨r, 0, none⟩) l.length cv]) (by simp [results, Try.results25, go_sem, z0, z1]) rfl ?_
        refine ⟨⟨_, _, _, d, l, rfl, TreeAt.keep (Nat.le_refl _) (Nat.zero_le (g + 1)) (fun _ _ _ => rfl) 4 _ _ _ (hA.out.ht.puts (o := 0) hR [.string (strT d), .slice aT (kidsOf d).length cT]).here, (hA.out.seq.puts (o := 0) (g := w.heap.size) rfl [.string (strT d), .slice aT (kidsOf d).length cT]).here, hl6.out, hA.out.ps⟩, putCells_below [.string (strT d), .slice aT (kidsOf d).length cT] _ _ _ w.heap.size 0 (Nat.le_refl _) hA.out.hb⟩
end Go.Proofs.Ytndffcogddefiaa
