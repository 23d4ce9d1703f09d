/- l10Put of the specification: walked. -/
import Derived.Test.YtndffcogddefiaaEdRow
import Derived.Test.YtndffcogddefiaaAtSpec
import Derived.Test.YtndffcogddefiaaTakeLit
import Derived.Deep.RegionHeld3
import Derived.Deep.DeepCutAuto
namespace Go.Proofs.Ytndffcogddefiaa
open Go.RowKit Go.Deep
/-- elder blocks, or new ones -/
def NewS (S : Nat → Prop) (w w' : World) : Nat → Prop := fun b => S b ∨ (w.heap.size ≤ b ∧ b < w'.heap.size)
theorem newS_keep {S : Nat → Prop} {w w' : World} (hb : Below w.heap.size w w') : ∀ b, S b → b < w.heap.size → NewS S w w' b ∧ w'.heap[b]? = w.heap[b]? := fun b h1 h2 => ⟨Or.inl h1, hb.block b h2⟩
/-- what l10Put answers -/
def PutR (w w' : World) (S : Nat → Prop) (k : Int) (tag : ByteArray) (tr : TD) (path : List Int) (d : TD) (e : Ending) : Prop :=
  ∃ (s : ByteArray) (a : Option Addr) (l c : Nat) (b : Bool), e = .returned (.tuple #[.agg #[.string s, .slice a l c], .bool b]) ∧ ((b = true ∧ ∃ x n', putD k tag tr path d = some x ∧ TreeS w' (NewS S w w') n' (.string s) (.slice a l c) x) ∨ (b = false ∧ putD k tag tr path d = none)) ∧ Below w.heap.size w w'
theorem PutR.no {w w' : World} {S : Nat → Prop} {k : Int} {tag : ByteArray} {tr : TD} {path : List Int} {d : TD} {s : ByteArray} {a : Option Addr} {l c : Nat} (h : putD k tag tr path d = none) (hb : Below w.heap.size w w') : PutR w w' S k tag tr path d (.returned (.tuple #[.agg #[.string s, .slice a l c], .bool false])) := ⟨s, a, l, c, false, rfl, Or.inr ⟨rfl, h⟩, hb⟩
theorem PutR.yes {w w' : World} {S : Nat → Prop} {k : Int} {tag : ByteArray} {tr : TD} {path : List Int} {d x : TD} {n' : Nat} {s : ByteArray} {a : Option Addr} {l c : Nat} (h : putD k tag tr path d = some x) (ht : TreeS w' (NewS S w w') n' (.string s) (.slice a l c) x) (hb : Below w.heap.size w w') : PutR w w' S k tag tr path d (.returned (.tuple #[.agg #[.string s, .slice a l c], .bool true])) := ⟨s, a, l, c, true, rfl, Or.inl ⟨rfl, x, n', h, ht⟩, hb⟩
theorem PutR.dec {w w' : World} {S : Nat → Prop} {k : Int} {tag : ByteArray} {tr : TD} {d : TD} {n' : Nat} {a : Option Addr} {l c : Nat} (ht : TreeS w' (NewS S w w') n' (.string tag) (.slice a l c) (mkT tag (kidsOf d))) (hb : Below w.heap.size w w') : PutR w w' S k tag tr [] d (.returned (.tuple #[.agg #[.string tag, .slice a l c], .bool (decide (k = 3))])) := by
  by_cases h : k = 3
  · rw [decide_eq_true h]; exact PutR.yes (by unfold putD; rw [if_pos h]) ht hb
  · rw [decide_eq_false h]; exact PutR.no (by unfold putD; rw [if_neg h]) hb
theorem TreeS.rowOf {w : World} {S : Nat → Prop} {n : Nat} {t k : Value} {d : TD} (h : TreeS w S n t k d) : RowS (TreeS w S n) w S k (kidsOf d) := by
  cases n with
  | zero => exact h.elim
  | succ n => exact h.2.mono (Nat.le_refl _) (fun b hb _ => ⟨hb, rfl⟩) (fun _ _ _ r => r.more _ _ _ _)
theorem TreeS.renamed {w w' : World} {S : Nat → Prop} {n : Nat} {t k : Value} {d : TD} {s : ByteArray} (h : TreeS w S n t k d) (hb : Below w.heap.size w w') (hs : s.size ≤ maxLen) : TreeS w' (NewS S w w') (n + 1) (.string s) k (mkT s (kidsOf d)) :=
  ⟨⟨s, rfl, hs, rfl⟩, h.rowOf.mono hb.size (newS_keep hb) (fun _ _ _ r => TreeS.keep hb.size (newS_keep hb) _ _ _ _ r)⟩
theorem kids_css {w : World} {S : Nat → Prop} {n : Nat} {a : Option Addr} {l c : Nat} {ds : List TD} (h : RowS (TreeS w S n) w S (.slice a l c) ds) : ∃ css, KidsC w S n css ds ∧ ∀ W, Below w.heap.size w W → CssAt 2 (fun _ _ cs x => KidS w S n cs x) W 0 a ds css := by
  obtain ⟨a', cap, e, hm, hx⟩ := h
  injection e with e1 _ _
  subst e1
  rcases Nat.eq_zero_or_pos ds.length with h0 | h0
  · have : ds = [] := List.length_eq_zero_iff.1 h0
    subst this
    exact ⟨[], ⟨rfl, by simp, fun i h => absurd h (by simp)⟩, fun W _ => ⟨rfl, by simp, fun i h => absurd h (by simp), fun _ => rfl, fun ad _ j u hu => by simp at hu⟩⟩
  · obtain ⟨b, off, rfl, hlo, hbb, hc⟩ := hx h0
    obtain ⟨css, q1, q2, _, _, q5⟩ := row_cells (n := n) (w0 := w) (lo := 0) (fun i hi => by obtain ⟨t', k', c1, c2, r⟩ := hc i hi; exact ⟨t', k', c1, c2, r.at⟩)
    have q3 : ∀ i, (h : i < ds.length) → (h1 : i < css.length) → KidS w S n css[i] ds[i] := fun i hi hi1 => by
      obtain ⟨t', k', c1, c2, r⟩ := hc i hi
      have f0 : css.flatten[i * 2 + 0]? = css[i][0]? := css_get q2 hi1 (by omega)
      have f1 : css.flatten[i * 2 + 1]? = css[i][1]? := css_get q2 hi1 (by omega)
      have l2 := q2 _ (List.getElem_mem hi1)
      match hcs : css[i], l2 with
      | [x, y], _ =>
        rw [hcs] at f0 f1
        have g0 := q5 _ _ f0
        have g1 := q5 _ _ f1
        rw [add_lit] at g0 g1
        simp only [Nat.add_zero] at g0
        rw [← Nat.add_assoc] at g1
        rw [c1] at g0
        rw [c2] at g1
        injection g0 with g0
        injection g1 with g1
        subst g0 g1
        have e3 : nth ds i = ds[i] := by simp [nth, List.getD, List.getElem?_eq_getElem hi]
        exact ⟨_, _, rfl, by rw [← e3]; exact r⟩
    refine ⟨css, ⟨q1, q2, q3⟩, fun W hb => ⟨q1, q2, fun i hi hi' => q3 i hi' hi, fun e => (by cases e), fun ad e j u hu => ?_⟩⟩
    injection e with e
    subst e
    have := q5 j u hu
    rw [add_lit] at this ⊢
    rw [World.cell?_of_block (w := w) (w' := W) (hb.block b hbb)]; exact this
def PutI (m : Nat) : Prop := ∀ (w : World) (S : Nat → Prop) (n nt : Nat) (t k kp tt kt : Value) (d tr : TD) (path : List Int) (kind : Int) (tag : ByteArray), path.length = m → (∀ b, S b → b < w.heap.size) → TreeS w S n t k d → RightT d → SeqAt 1 IntAt w 0 kp path → tag.size ≤ maxLen → TreeS w S nt tt kt tr →
    Calls Try.prog 31 #[.agg #[t, k], .agg #[.int .i64 kind, kp, .string tag, tt, kt]] w fun e w' => PutR w w' S kind tag tr path d e
set_option maxRecDepth 100000 in
set_option maxHeartbeats 4000000 in
theorem putI_zero : PutI 0 := by
  intro w S n nt t k kp tt kt d tr path kind tag hm hSl ht0 hR hp htg0 htt0
  have hm' : Hid (path.length = 0) := hm
  clear hm
  obtain ⟨rfl, _⟩ := ht0.at.tag
  obtain ⟨_, a0, c0, rfl⟩ := ht0.at.form
  obtain ⟨ap, cp, rfl⟩ := hp.form
  obtain ⟨rfl, _⟩ := htt0.at.tag
  obtain ⟨_, at1, ct, rfl⟩ := htt0.at.form
  have ht : Hid (TreeS w S n (.string (strT d)) (.slice a0 (kidsOf d).length c0) d) := ht0
  have htg : Hid (tag.size ≤ maxLen) := htg0
  obtain ⟨W, hW⟩ : ∃ W, (((w.alloc (.cells #[.string (strT d), .slice a0 (kidsOf d).length c0] 26)).alloc (.cells #[.int .i64 kind, .slice ap path.length cp, .string tag, .string (strT tr), .slice at1 (kidsOf tr).length ct] 29)).alloc (.cells #[.string ⟨#[]⟩, .slice none 0 0] 26)) = W := ⟨_, rfl⟩
  have bT0 : Hid (Box W w.heap.size [.string (strT d), .slice a0 (kidsOf d).length c0] 26) := by rw [← hW]; exact ((Box.new w _ _).alloc _).alloc _
  have bE0 : Hid (Box W (w.heap.size + 1) [.int .i64 kind, .slice ap path.length cp, .string tag, .string (strT tr), .slice at1 (kidsOf tr).length ct] 29) := by
    rw [← hW]
    have q := (Box.new (w.alloc (.cells #[.string (strT d), .slice a0 (kidsOf d).length c0] 26)) [.int .i64 kind, .slice ap path.length cp, .string tag, .string (strT tr), .slice at1 (kidsOf tr).length ct] 29).alloc (.cells #[.string ⟨#[]⟩, .slice none 0 0] 26)
    simpa [Hid] using q
  have bR0 : Hid (Box W (w.heap.size + 1 + 1) [.string ⟨#[]⟩, .slice none 0 0] 26) := by
    rw [← hW]
    have q := Box.new ((w.alloc (.cells #[.string (strT d), .slice a0 (kidsOf d).length c0] 26)).alloc (.cells #[.int .i64 kind, .slice ap path.length cp, .string tag, .string (strT tr), .slice at1 (kidsOf tr).length ct] 29)) [.string ⟨#[]⟩, .slice none 0 0] 26
    simpa [Hid] using q
  have hB0 : Hid (Below w.heap.size w W) := by rw [← hW]; exact (((Below.refl _ _).alloc (Nat.le_refl _) _).alloc (by simp) _).alloc (by simp; omega) _
  have hWh : Hid ((((w.alloc (.cells #[.string (strT d), .slice a0 (kidsOf d).length c0] 26)).alloc (.cells #[.int .i64 kind, .slice ap path.length cp, .string tag, .string (strT tr), .slice at1 (kidsOf tr).length ct] 29)).alloc (.cells #[.string ⟨#[]⟩, .slice none 0 0] 26)) = W) := hW
  clear hW ht0 hR hp htg0 htt0 hSl
  go_enter Try.func31, Try.ntmps31
  go_upto_region 1 with fail
  rw [hWh.out]
  clear hWh
  have r0 := bR0.out.cell 0 rfl
  have r1 := bR0.out.cell 1 rfl
  have fR := bR0.out.unfrozen
  have e1 := bE0.out.cell 1 rfl
  have hz : (path.length : Int) = 0 := by have := hm'.out; omega
  go_upto_region 2 with fail
  refine wp_region_held_drew (S := fun w' => w'.cell? ⟨w.heap.size, 1, none⟩ = some (.slice a0 (kidsOf d).length c0) ∧ w'.cell? ⟨(w.heap.size + 1), 0, none⟩ = some (.int .i64 kind) ∧ w'.cell? ⟨(w.heap.size + 1), 2, none⟩ = some (.string tag)) (by kernel_rfl) ⟨bT0.out.cell 1 rfl, bE0.out.cell 0 rfl, bE0.out.cell 2 rfl⟩ (fun hHeld => ?_)
  refine tq (i := 0) (d := 16) ?_
  simp only [sz, ss]
  refine tq (i := 1) (d := 17) ?_
  simp only [sz, ss]
  refine tq (i := 2) (d := 18) ?_
  simp only [sz, ss]
  refine tq (i := 3) (d := 19) ?_
  simp only [sz, ss]
  refine tq (i := 4) (d := 20) ?_
  simp only [sz, ss]
  refine tq (i := 5) (d := 21) ?_
  simp only [sz, ss]
  refine tq (i := 6) (d := 22) ?_
  simp only [sz, ss]
  refine take_lit (i := 7) (d := 23) (v := .bool (decide (kind = 3))) rfl rfl (by kernel_rfl) (by kernel_rfl) (by kernel_rfl) (fun _ _ _ h => h) (Or.inl ⟨by rfl, ?_⟩) (by assumption) ?_
  · intro w9 hS9; go_simp; rfl
  simp only [sz, ss]
  refine wpAnyH_ready (rs := [8]) (by kernel_rfl) (by simp) ?_
  refine AllReadyH.cons rfl (fun K hK => ?_) AllReadyH.nil
  have bR5 : Hid (Box (putCells W (w.heap.size + 1 + 1) 0 [.string tag, .slice a0 (kidsOf d).length c0]) (w.heap.size + 1 + 1) [.string tag, .slice a0 (kidsOf d).length c0] 26) := (bR0.out.set (i := 0) _).set (i := 1) _
  have bT5 : Hid (Box (putCells W (w.heap.size + 1 + 1) 0 [.string tag, .slice a0 (kidsOf d).length c0]) w.heap.size [.string (strT d), .slice a0 (kidsOf d).length c0] 26) := (putCells_other _ _ _ _ _ (by omega)).trans bT0.out
  have bE5 : Hid (Box (putCells W (w.heap.size + 1 + 1) 0 [.string tag, .slice a0 (kidsOf d).length c0]) (w.heap.size + 1) [.int .i64 kind, .slice ap path.length cp, .string tag, .string (strT tr), .slice at1 (kidsOf tr).length ct] 29) := (putCells_other _ _ _ _ _ (by omega)).trans bE0.out
  go_simp
  refine hK.out _ _ ⟨bT5.out.cell 1 rfl, bE5.out.cell 0 rfl, bE5.out.cell 2 rfl⟩ (fun hHeld => ?_)
  clear hK K
  refine tq (i := 9) (d := 5) ?_
  simp only [sz, ss]
  refine wpAnyH_done (by kernel_rfl) ?_ _
  go_wp2_with fail
  have s0 : (putCells W (w.heap.size + 1 + 1) 0 [.string tag, .slice a0 (kidsOf d).length c0]).drew.cell? ⟨(w.heap.size + 1 + 1), 0, none⟩ = some (.string tag) := bR5.out.cell 0 rfl
  have s1 : (putCells W (w.heap.size + 1 + 1) 0 [.string tag, .slice a0 (kidsOf d).length c0]).drew.cell? ⟨(w.heap.size + 1 + 1), 1, none⟩ = some (.slice a0 (kidsOf d).length c0) := bR5.out.cell 1 rfl
  obtain rfl := List.length_eq_zero_iff.1 hm'.out
  exact bodyPost_ret (v := .tuple #[.agg #[.string tag, .slice a0 (kidsOf d).length c0], .bool (decide (kind = 3))]) (by simp only [putCells] at s0 s1; simp [results, Try.results31, go_sem, s0, s1]) rfl (PutR.dec (ht.out.renamed (Below.drew (putCells_below [.string tag, .slice a0 (kidsOf d).length c0] _ _ _ (w.heap.size + 1 + 1) 0 (by omega) hB0.out)) htg.out) (Below.drew (putCells_below [.string tag, .slice a0 (kidsOf d).length c0] _ _ _ (w.heap.size + 1 + 1) 0 (by omega) hB0.out)))
set_option maxRecDepth 100000 in
set_option maxHeartbeats 16000000 in
theorem putI_succ (m : Nat) (ih0 : PutI m) : PutI (m + 1) := by
  intro w S n nt t k kp tt kt d tr path kind tag hm hSl ht0 hR0 hp htg0 htt0
  have hSl' : Hid (∀ b, S b → b < w.heap.size) := hSl
  clear hSl
  have ih : Hid (PutI m) := ih0
  have hm' : Hid (path.length = m + 1) := hm
  obtain ⟨p, ps, hpe⟩ : ∃ p ps, path = p :: ps := by cases path with | nil => simp at hm | cons x r => exact ⟨x, r, rfl⟩
  have hps : Hid (path = p :: ps) := hpe
  obtain ⟨rfl, hds⟩ := ht0.at.tag
  obtain ⟨_, a0, c0, rfl⟩ := ht0.at.form
  obtain ⟨ap, cp, rfl⟩ := hp.form
  obtain ⟨rfl, hts⟩ := htt0.at.tag
  obtain ⟨_, at1, ct, rfl⟩ := htt0.at.form
  have hpz : 0 < path.length := by omega
  have hpq : Hid (SeqAt 1 IntAt w 0 (.slice ap path.length cp) path) := hp
  obtain ⟨ap', cp', epp, hpm, hpx⟩ := hp
  injection epp with epa _ epc
  subst epa epc
  obtain ⟨bp, op, rfl, _, hbp, hpc⟩ := hpx hpz
  obtain ⟨cs0, hcl0, lie0, rp, hpI⟩ := hpc 0 hpz
  subst rp
  have cp0 : w.cell? ⟨bp, op, none⟩ = some (.int .i64 p) := by
    have q := lie0 0 (by simp)
    simp only [List.getElem?_cons_zero, Nat.add_zero, Nat.zero_mul] at q
    rw [q]; simp [hpe]
  have hpp : Hid (path.length ≤ maxLen ∧ path.length ≤ cp) := hpm
  have hpl : (path.length : Int) ≤ 9223372036854775807 := by have := hpm.1; unfold maxLen at this; omega
  have hpI' : Hid (InI p) := by show InI p; have := hpI; simpa [hpe] using this
  have ht : Hid (TreeS w S n (.string (strT d)) (.slice a0 (kidsOf d).length c0) d) := ht0
  have htt : Hid (TreeS w S nt (.string (strT tr)) (.slice at1 (kidsOf tr).length ct) tr) := htt0
  have hR : Hid (RightT d) := hR0
  have hfew : (kidsOf d).length ≤ 30 := hR0.few
  have htg : Hid (tag.size ≤ maxLen) := htg0
  have hdsz : Hid ((strT d).size ≤ maxLen) := hds
  obtain ⟨css, hkc0, hsrc0⟩ := kids_css ht0.rowOf
  have hkc : Hid (KidsC w S n css (kidsOf d)) := hkc0
  have hsrc : Hid (∀ W, Below w.heap.size w W → CssAt 2 (fun _ _ cs x => KidS w S n cs x) W 0 a0 (kidsOf d) css) := hsrc0
  obtain ⟨W, hW⟩ : ∃ W, (((w.alloc (.cells #[.string (strT d), .slice a0 (kidsOf d).length c0] 26)).alloc (.cells #[.int .i64 kind, .slice (some ⟨bp, op, none⟩) path.length cp, .string tag, .string (strT tr), .slice at1 (kidsOf tr).length ct] 29)).alloc (.cells #[.string ⟨#[]⟩, .slice none 0 0] 26)) = W := ⟨_, rfl⟩
  have bT0 : Hid (Box W w.heap.size [.string (strT d), .slice a0 (kidsOf d).length c0] 26) := by rw [← hW]; exact ((Box.new w _ _).alloc _).alloc _
  have bE0 : Hid (Box W (w.heap.size + 1) [.int .i64 kind, .slice (some ⟨bp, op, none⟩) path.length cp, .string tag, .string (strT tr), .slice at1 (kidsOf tr).length ct] 29) := by
    rw [← hW]
    have q := (Box.new (w.alloc (.cells #[.string (strT d), .slice a0 (kidsOf d).length c0] 26)) [.int .i64 kind, .slice (some ⟨bp, op, none⟩) path.length cp, .string tag, .string (strT tr), .slice at1 (kidsOf tr).length ct] 29).alloc (.cells #[.string ⟨#[]⟩, .slice none 0 0] 26)
    simpa [Hid] using q
  have bR0 : Hid (Box W (w.heap.size + 1 + 1) [.string ⟨#[]⟩, .slice none 0 0] 26) := by
    rw [← hW]
    have q := Box.new ((w.alloc (.cells #[.string (strT d), .slice a0 (kidsOf d).length c0] 26)).alloc (.cells #[.int .i64 kind, .slice (some ⟨bp, op, none⟩) path.length cp, .string tag, .string (strT tr), .slice at1 (kidsOf tr).length ct] 29)) [.string ⟨#[]⟩, .slice none 0 0] 26
    simpa [Hid] using q
  have hB0 : Hid (Below w.heap.size w W) := by rw [← hW]; exact (((Below.refl _ _).alloc (Nat.le_refl _) _).alloc (by simp) _).alloc (by simp; omega) _
  have hWs : Hid (W.heap.size = w.heap.size + 3) := by show _ = _; rw [← hW]; simp
  have hWh : Hid ((((w.alloc (.cells #[.string (strT d), .slice a0 (kidsOf d).length c0] 26)).alloc (.cells #[.int .i64 kind, .slice (some ⟨bp, op, none⟩) path.length cp, .string tag, .string (strT tr), .slice at1 (kidsOf tr).length ct] 29)).alloc (.cells #[.string ⟨#[]⟩, .slice none 0 0] 26)) = W) := hW
  have hpe' := hpe
  clear hW ht0 hR0 htg0 htt0 hm hpe hpm hpI hpc hpx lie0 hcl0 hds hts hkc0 hsrc0 ih0 hpe'
  have hbpW : Hid (∀ W', Below w.heap.size w W' → W'.cell? ⟨bp, op, none⟩ = some (.int .i64 p)) := fun W' hb => by rw [World.cell?_of_block (w := w) (w' := W') (hb.block bp hbp)]; exact cp0
  clear cp0 hbp
  obtain ⟨iT, hiT0, heT0, heT1, heT2⟩ := info_parts infoTree
  have hiT : Hid (Try.prog.info? 26 = some iT) := hiT0
  have heT : Hid (iT.zero = some (.agg #[.string ByteArray.empty, .slice none 0 0]) ∧ iT.size = 2 ∧ iT.bytes = 40) := ⟨heT0, heT1, heT2⟩
  clear hiT0 heT0 heT1 heT2
  go_enter Try.func31, Try.ntmps31
  go_upto_region 1 with fail
  rw [hWh.out]
  clear hWh
  have t0 := bT0.out.cell 0 rfl
  have t1 := bT0.out.cell 1 rfl
  have e0 := bE0.out.cell 0 rfl
  have e1 := bE0.out.cell 1 rfl
  have cpW := hbpW.out W hB0.out
  have hz : ¬ (path.length : Int) = 0 := by omega
  have hzb : ((path.length : Int) == 0) = false := by simpa using hz
  have hz1 : (0 : Int) < (path.length : Int) := by omega
  have hB3 : Hid (Below w.heap.size w (W.alloc (.cells #[] 26))) := hB0.out.alloc hB0.out.size _
  have hemp : Hid ((W.alloc (.cells #[] 26)).ownsRow W.heap.size 26 2 (.slice (some ⟨W.heap.size, 0, none⟩) 0 0) 0 []) := RowK.empty (Box.new W [] _) (Nat.le_refl _)
  have hone : Hid (∀ cs ∈ css, ∀ u ∈ cs, u.oneCell' = true) := hkc.out.one
  have t1' : (W.alloc (.cells #[] 26)).cell? ⟨w.heap.size, 1, none⟩ = some (.slice a0 (kidsOf d).length c0) := (bT0.out.alloc _).cell 1 rfl
  go_upto_region 6 with (at_builtin; refine wpList_append_rows (R := fun _ _ cs x => KidS w S n cs x) rfl _ _ 24 rfl W.heap.size 0 26 iT _ 40 Try.underlying24 hiT.out heT.out.1 heT.out.2.1 heT.out.2.2 rfl (by decide) (.slice (some ⟨W.heap.size, 0, none⟩) 0 0) 0 [] rfl (by simp) hemp.out a0 c0 (kidsOf d) css rfl (hsrc.out _ hB3.out) hone.out (by unfold maxLen; omega) (by omega) (by simp) ?_; intro vk w5 hown5 hgr5 hne5 hxx)
  have hk5 := RowK.of (n := (kidsOf d).length) (css := css) (by simpa using hown5) hne5 hkc.out.1.symm
  obtain ⟨g, cap, rfl, hrow0⟩ := hk5
  have hrow : Hid (RowK W.heap.size w5 g cap css) := hrow0
  have hB5 : Hid (Below (w.heap.size + 3) W w5) := by
    rw [← hWs.out]
    exact (show Below W.heap.size W (W.alloc (.cells #[] 26)) from (Below.refl _ _).alloc (Nat.le_refl _) _).grown hgr5 (by simp) (fun k e => by injection e with e; rw [← e]; exact Nat.le_refl _)
  have hBw5 : Hid (Below w.heap.size w w5) := hB0.out.trans (hB5.out.mono (by omega))
  clear hown5 hgr5 hne5 hxx hrow0 hemp hB3 t1' hone t0 t1 e0 e1 cpW
  have hWsz : Hid (w.heap.size + 3 ≤ W.heap.size) := Nat.le_of_eq hWs.out.symm
  have bT5 : Hid (Box w5 w.heap.size [.string (strT d), .slice a0 (kidsOf d).length c0] 26) := bT0.out.below hB5.out (by omega)
  have bE5 : Hid (Box w5 (w.heap.size + 1) [.int .i64 kind, .slice (some ⟨bp, op, none⟩) path.length cp, .string tag, .string (strT tr), .slice at1 (kidsOf tr).length ct] 29) := bE0.out.below hB5.out (by omega)
  have bR5 : Hid (Box w5 (w.heap.size + 1 + 1) [.string ⟨#[]⟩, .slice none 0 0] 26) := bR0.out.below hB5.out (by omega)
  clear bT0 bE0 bR0 hB0 hsrc
  by_cases hA : path.length = 1 ∧ kind = 1
  · obtain ⟨hl1, hk1⟩ := hA
    subst hk1
    have hpn : Hid (ps = []) := by show _ = _; have := hps.out; rw [this] at hl1; simpa using hl1
    have hl1' : (path.length : Int) = 1 := by omega
    have e0 := bE5.out.cell 0 rfl
    have e1 := bE5.out.cell 1 rfl
    have hput : Hid (putD 1 tag tr path d = if 0 ≤ p ∧ p ≤ ((kidsOf d).length : Int) then some (mkT (strT d) (insK (kidsOf d) p.toNat tr)) else none) := by
      show _ = _
      rw [hps.out, hpn.out]
      show (if ([] : List Int) = [] ∧ (1 : Int) = 1 then _ else _) = _
      rw [if_pos ⟨rfl, rfl⟩]
    clear hl1
    go_wp2_with fail
    refine (l1In_any _ _ _ _).mono ?_
    rintro e w6 ⟨rfl, e9⟩
    have e10 := e9.symm
    clear e9
    subst e10
    by_cases hin : 0 ≤ p ∧ p ≤ ((kidsOf d).length : Int)
    · obtain ⟨hp0, hpn1⟩ := hin
      rw [decide_eq_true hp0, decide_eq_true hpn1]
      obtain ⟨j, rfl⟩ := Int.eq_ofNat_of_zero_le hp0
      have hj : j ≤ (kidsOf d).length := by omega
      have hsome : Hid (putD 1 tag tr path d = some (mkT (strT d) (insK (kidsOf d) j tr))) := by show _ = _; rw [hput.out, if_pos ⟨hp0, hpn1⟩]; simp
      clear hput
      obtain ⟨hr1, hr2, hr3, hr4, hr5, _⟩ := hrow.out.parts
      have hcl := hkc.out.1
      obtain ⟨ds1, hds1⟩ : ∃ ds1, (kidsOf d).take j = ds1 := ⟨_, rfl⟩
      obtain ⟨ds3, hds3⟩ : ∃ ds3, (kidsOf d).drop j = ds3 := ⟨_, rfl⟩
      have hl1 : ds1.length = j := by rw [← hds1, List.length_take]; omega
      have hl3 : (kidsOf d).length - j = ds3.length := by rw [← hds3, List.length_drop]
      have hkn : Hid (KidsC w S (n + nt) css (kidsOf d)) := hkc.out.mono (by omega)
      have hk1 : Hid (KidsC w S (n + nt) (css.take j) ds1) := by rw [← hds1]; exact hkn.out.take j
      have hk3 : Hid (KidsC w S (n + nt) (css.drop j) ds3) := by rw [← hds3]; exact hkn.out.drop j
      have hk2 : Hid (KidsC w S (n + nt) [[.string (strT tr), .slice at1 (kidsOf tr).length ct]] [tr]) := KidsC.single (htt.out.mono (by omega))
      have hsl1 : ∀ w, (Instr.slice 24 (.slice (some ⟨g, 0, none⟩) (kidsOf d).length cap) none (some (.int .i64 (j : Int))) none).run Try.prog w = .ok (.slice (some ⟨g, 0, none⟩) ds1.length cap) w := fun w => by rw [hl1]; exact sl_to_row g _ cap j (by omega) w
      obtain ⟨o3, c3, hsl3, ho3⟩ : ∃ o3 c3, (∀ w, (Instr.slice 24 (.slice (some ⟨g, 0, none⟩) (kidsOf d).length cap) (some (.int .i64 (j : Int))) none none).run Try.prog w = .ok (.slice (some ⟨g, o3, none⟩) ds3.length c3) w) ∧ (0 < ds3.length → o3 = 0 + j * 2) := by
        obtain ⟨o', c', q1, q2⟩ := sl_from_row g (kidsOf d).length cap j hj (by omega)
        rw [hl3] at q1 q2
        exact ⟨o', c', q1, q2⟩
      have hc1 : Hid (CellsAt w5 g 0 (css.take j)) := hr5.take j
      have hc3 : Hid (CellsAt w5 g o3 (css.drop j)) := by
        rcases Nat.eq_zero_or_pos ds3.length with q | q
        · have : css.drop j = [] := List.eq_nil_of_length_eq_zero (by rw [List.length_drop]; omega)
          rw [this]; intro i u hu; simp at hu
        · rw [ho3 q]; exact hr5.drop hkc.out.2.1 (by omega)
      have hg5 : Hid (g < w5.heap.size) := hr2
      have hl1' : Hid (ds1.length = j) := hl1
      have hl3' : Hid (ds1.length + 1 + ds3.length = (kidsOf d).length + 1) := by show _ = _; omega
      have hb1 : ds1.length ≤ 30 := by omega
      have hb3 : ds3.length ≤ 30 := by omega
      have hins : Hid (insK (kidsOf d) j tr = ds1 ++ [tr] ++ ds3) := by show _ = _; unfold insK; rw [hds1, hds3]; simp
      clear hl1 hl3 ho3 hds1 hds3 hr1 hr2 hr3 hr4 hr5 hcl
      have hB6 : Hid (Below w5.heap.size w5 (w5.alloc (.cells #[] 26))) := (Below.refl _ _).alloc (Nat.le_refl _) _
      have hemp : Hid ((w5.alloc (.cells #[] 26)).ownsRow w5.heap.size 26 2 (.slice (some ⟨w5.heap.size, 0, none⟩) 0 0) 0 []) := RowK.empty (Box.new w5 [] _) (Nat.le_refl _)
      have hs1 : Hid (CssAt 2 (fun _ _ cs x => KidS w S (n + nt) cs x) (w5.alloc (.cells #[] 26)) 0 (some ⟨g, 0, none⟩) ds1 (css.take j)) := css_src hk1.out (hc1.out.keep (hB6.out.block g hg5.out))
      go_upto_region 10 with (at_builtin; refine wpList_append_rows (R := fun _ _ cs x => KidS w S (n + nt) cs x) rfl _ _ 24 rfl w5.heap.size 0 26 iT _ 40 Try.underlying24 hiT.out heT.out.1 heT.out.2.1 heT.out.2.2 rfl (by decide) (.slice (some ⟨w5.heap.size, 0, none⟩) 0 0) 0 [] rfl (by simp) hemp.out (some ⟨g, 0, none⟩) cap ds1 (css.take j) rfl hs1.out hk1.out.one (by unfold maxLen; omega) (by omega) (by simp) ?_; intro v7 w7 hown7 hgr7 hne7 hx7)
      have hB7 : Hid (Below w5.heap.size w5 w7) := hB6.out.grown hgr7 (by simp) (fun k e => by injection e with e; rw [← e]; exact Nat.le_refl _)
      have hown7' : Hid (w7.ownsRow w5.heap.size 26 2 v7 ds1.length (css.take j).flatten) := by have q := hown7; rw [Nat.zero_add, List.nil_append] at q; exact q
      have hne7' : Hid (v7 ≠ .slice none 0 0) := hne7
      have bT7 : Hid (Box w7 w.heap.size [.string (strT d), .slice a0 (kidsOf d).length c0] 26) := bT5.out.below hB7.out bT5.out.lt
      have bE7 : Hid (Box w7 (w.heap.size + 1) [.int .i64 1, .slice (some ⟨bp, op, none⟩) path.length cp, .string tag, .string (strT tr), .slice at1 (kidsOf tr).length ct] 29) := bE5.out.below hB7.out bE5.out.lt
      have bR7 : Hid (Box w7 (w.heap.size + 1 + 1) [.string ⟨#[]⟩, .slice none 0 0] 26) := bR5.out.below hB7.out bR5.out.lt
      clear hown7 hgr7 hne7 hx7 hemp hs1 hB6 hsl1 e0 e1
      have e3 := bE7.out.cell 3 rfl
      have e4 := bE7.out.cell 4 rfl
      have hB8 : Hid (Below w7.heap.size w7 (w7.alloc (.cells #[.string (strT tr), .slice at1 (kidsOf tr).length ct] 26))) := (Below.refl _ _).alloc (Nat.le_refl _) _
      have hs2 : Hid (CssAt 2 (fun _ _ cs x => KidS w S (n + nt) cs x) (w7.alloc (.cells #[.string (strT tr), .slice at1 (kidsOf tr).length ct] 26)) 0 (some ⟨w7.heap.size, 0, none⟩) [tr] [[.string (strT tr), .slice at1 (kidsOf tr).length ct]]) := css_src hk2.out (fun i u hu => by
        have bx := Box.new w7 [.string (strT tr), .slice at1 (kidsOf tr).length ct] 26
        have hu' : [Value.string (strT tr), .slice at1 (kidsOf tr).length ct][i]? = some u := by simpa using hu
        have := bx.cell i hu'
        simpa using this)
      have hown8 : Hid ((w7.alloc (.cells #[.string (strT tr), .slice at1 (kidsOf tr).length ct] 26)).ownsRow w5.heap.size 26 2 v7 ds1.length (css.take j).flatten) := row_below hown7'.out hB8.out
      go_upto_region 11 with (at_builtin; refine wpList_append_rows (R := fun _ _ cs x => KidS w S (n + nt) cs x) rfl _ _ 24 rfl w5.heap.size 0 26 iT _ 40 Try.underlying24 hiT.out heT.out.1 heT.out.2.1 heT.out.2.2 rfl (by decide) (v7) ds1.length (css.take j).flatten rfl hne7'.out hown8.out (some ⟨w7.heap.size, 0, none⟩) 1 [tr] [[.string (strT tr), .slice at1 (kidsOf tr).length ct]] rfl hs2.out hk2.out.one (by unfold maxLen; simp; omega) (by simp; omega) (by have := hB7.out.size; simp; omega) ?_; intro v9 w9 hown9 hgr9 hne9 hx9)
      have hB9 : Hid (Below w5.heap.size w5 w9) := (hB7.out.alloc hB7.out.size _).grown hgr9 (by have := hB7.out.size; simp; omega) (fun k e => own_block2 hown8.out k e)
      have hown9' : Hid (w9.drew.ownsRow w5.heap.size 26 2 v9 (ds1.length + [tr].length) ((css.take j).flatten ++ [[Value.string (strT tr), .slice at1 (kidsOf tr).length ct]].flatten)) := hown9
      have hne9' : Hid (v9 ≠ .slice none 0 0) := hne9
      have bT9 : Hid (Box w9 w.heap.size [.string (strT d), .slice a0 (kidsOf d).length c0] 26) := bT5.out.below hB9.out bT5.out.lt
      have bR9 : Hid (Box w9 (w.heap.size + 1 + 1) [.string ⟨#[]⟩, .slice none 0 0] 26) := bR5.out.below hB9.out bR5.out.lt
      have hT5 : (w.heap.size + 1 + 1) < w5.heap.size := bR5.out.lt
      have hs3 : Hid (CssAt 2 (fun _ _ cs x => KidS w S (n + nt) cs x) w9.drew 0 (some ⟨g, o3, none⟩) ds3 (css.drop j)) := css_src hk3.out (CellsAt.keep (w := w5) hc3.out (hB9.out.block g hg5.out))
      obtain ⟨dsF, hdsF⟩ : ∃ dsF, ds1 ++ [tr] ++ ds3 = dsF := ⟨_, rfl⟩
      obtain ⟨csF, hcsF⟩ : ∃ csF, css.take j ++ [[Value.string (strT tr), .slice at1 (kidsOf tr).length ct]] ++ css.drop j = csF := ⟨_, rfl⟩
      have hkF : Hid (KidsC w S (n + nt) csF dsF) := by rw [← hdsF, ← hcsF]; exact (hk1.out.app hk2.out).app hk3.out
      have hlF : Hid (dsF.length = ds1.length + [tr].length + ds3.length) := by show _ = _; rw [← hdsF, List.length_append, List.length_append]
      have hfF : Hid (csF.flatten = (css.take j).flatten ++ [[Value.string (strT tr), .slice at1 (kidsOf tr).length ct]].flatten ++ (css.drop j).flatten) := by show _ = _; rw [← hcsF, List.flatten_append, List.flatten_append]
      have hsF : Hid (putD 1 tag tr path d = some (mkT (strT d) dsF)) := by rw [← hdsF, ← hins.out]; exact hsome.out
      clear hown9 hgr9 hne9 hx9 hs2 hown8 hB8 e3 e4 hins hsome hdsF hcsF hown7' hne7' bT7 bE7 bR7 bE5
      have hlb : ds1.length + [tr].length + ds3.length ≤ 61 := by simp; omega
      have hz9 : w5.heap.size ≤ w9.heap.size := hB9.out.size
      refine wp_region_held_drew (S := fun w' => w'.cell? ⟨w.heap.size, 0, none⟩ = some (.string (strT d))) (by kernel_rfl) (bT9.out.cell 0 rfl) (fun hHeld => ?_)
      refine tq (i := 0) (d := 59) ?_
      simp only [sz, ss]
      refine tq (i := 1) (d := 60) ?_
      simp only [sz, ss]
      refine tq (i := 2) (d := 61) ?_
      simp only [sz, ss]
      refine tq (i := 3) (d := 62) ?_
      simp only [sz, ss]
      refine tq (i := 4) (d := 63) ?_
      simp only [sz, ss]
      refine tq (i := 5) (d := 64) ?_
      simp only [sz, ss]
      refine wpAnyH_ready (rs := [6]) (by kernel_rfl) (by simp) ?_
      refine AllReadyH.cons rfl (fun K hK => ?_) AllReadyH.nil
      refine step_append_rows (w := w9.drew) (R := fun _ _ cs x => KidS w S (n + nt) cs x) rfl _ _ 24 rfl w5.heap.size 0 26 iT _ 40 Try.underlying24 hiT.out heT.out.1 heT.out.2.1 heT.out.2.2 rfl (by decide) (v9) (ds1.length + [tr].length) ((css.take j).flatten ++ [[Value.string (strT tr), .slice at1 (kidsOf tr).length ct]].flatten) rfl hne9'.out hown9'.out (some ⟨g, o3, none⟩) c3 ds3 (css.drop j) rfl hs3.out hk3.out.one (by unfold maxLen; omega) (by omega) (by exact hz9) ?_
      intro v10 w10 hown10 hgr10 hne10 hx10
      have hB10 : Hid (Below w5.heap.size w5 w10) := (Below.drew hB9.out).grown hgr10 (by exact hz9) (fun k e => own_block2 hown9'.out k e)
      have q10 : w10.ownsRow w5.heap.size 26 2 v10 dsF.length csF.flatten := by rw [hlF.out, hfF.out]; exact hown10
      obtain ⟨g10, cap10, rfl, hrow0⟩ := RowK.of q10 hne10 hkF.out.1.symm
      have hrow10 : Hid (RowK w5.heap.size w10 g10 cap10 csF) := hrow0
      have bT10 : Hid (Box w10 w.heap.size [.string (strT d), .slice a0 (kidsOf d).length c0] 26) := bT5.out.below hB10.out bT5.out.lt
      have bR10 : Hid (Box w10 (w.heap.size + 1 + 1) [.string ⟨#[]⟩, .slice none 0 0] 26) := bR5.out.below hB10.out bR5.out.lt
      clear hown10 hgr10 hne10 hx10 q10 hrow0
      refine hK.out _ _ (bT10.out.cell 0 rfl) (fun hHeld => ?_)
      clear hK K
      refine tq (i := 7) (d := 66) ?_
      simp only [sz, ss]
      refine wpAnyH_ready (rs := [8]) (by kernel_rfl) (by simp) ?_
      refine AllReadyH.cons rfl (fun K hK => ?_) AllReadyH.nil
      have r0 := bR10.out.cell 0 rfl
      have r1 := bR10.out.cell 1 rfl
      have fR := bR10.out.unfrozen
      have bR11 : Hid (Box (putCells w10 (w.heap.size + 1 + 1) 0 [.string (strT d), .slice (some ⟨g10, 0, none⟩) dsF.length cap10]) (w.heap.size + 1 + 1) [.string (strT d), .slice (some ⟨g10, 0, none⟩) dsF.length cap10] 26) := (bR10.out.set (i := 0) _).set (i := 1) _
      have bT11 : Hid (Box (putCells w10 (w.heap.size + 1 + 1) 0 [.string (strT d), .slice (some ⟨g10, 0, none⟩) dsF.length cap10]) w.heap.size [.string (strT d), .slice a0 (kidsOf d).length c0] 26) := (putCells_other _ _ _ _ _ (by omega)).trans bT10.out
      go_simp
      refine hK.out _ _ (bT11.out.cell 0 rfl) (fun hHeld => ?_)
      clear hK K
      refine tq (i := 9) (d := 5) ?_
      simp only [sz, ss]
      refine wpAnyH_done (by kernel_rfl) ?_ _
      go_wp2_with fail
      have s0 := bR11.out.cell 0 rfl
      have s1 := bR11.out.cell 1 rfl
      obtain ⟨hr1, hr2, _, _, hr5, _⟩ := hrow10.out.parts
      have hBF : Below w.heap.size w (putCells w10 (w.heap.size + 1 + 1) 0 [.string (strT d), .slice (some ⟨g10, 0, none⟩) dsF.length cap10]) := putCells_below [.string (strT d), .slice (some ⟨g10, 0, none⟩) dsF.length cap10] _ _ _ (w.heap.size + 1 + 1) 0 (by omega) (hBw5.out.trans (hB10.out.mono hBw5.out.size))
      have hCF : CellsAt (putCells w10 (w.heap.size + 1 + 1) 0 [.string (strT d), .slice (some ⟨g10, 0, none⟩) dsF.length cap10]) g10 0 csF := hr5.keep (putCells_other [.string (strT d), .slice (some ⟨g10, 0, none⟩) dsF.length cap10] w10 (w.heap.size + 1 + 1) 0 g10 (by omega))
      exact bodyPost_ret (v := .tuple #[.agg #[.string (strT d), .slice (some ⟨g10, 0, none⟩) dsF.length cap10], .bool true]) (by simp only [putCells] at s0 s1; simp [results, Try.results31, go_sem, s0, s1]) rfl (PutR.yes hsF.out (hkF.out.low hBF.size (newS_keep hBF) (by have := hlF.out; unfold maxLen; omega) hCF (fun _ => ⟨Or.inr ⟨by have := hBw5.out.size; omega, by rw [putCells_size]; exact hr2⟩, by rw [putCells_size]; exact hr2⟩) hdsz.out) hBF)
    · have hnone : Hid (putD 1 tag tr path d = none) := by show _ = _; rw [hput.out, if_neg hin]
      have hdec : (decide (0 ≤ p) && decide (p ≤ ((kidsOf d).length : Int))) = false := by
        rcases Classical.em (0 ≤ p) with q | q
        · rw [decide_eq_false (fun r => hin ⟨q, r⟩)]; simp
        · rw [decide_eq_false q]; rfl
      rw [hdec]
      clear hdec hin
      have t0 := bT5.out.cell 0 rfl
      have t1 := bT5.out.cell 1 rfl
      have r0 := bR5.out.cell 0 rfl
      have r1 := bR5.out.cell 1 rfl
      have fR := bR5.out.unfrozen
      go_wp2_with fail
      have z1 := Box.set (i := 1) (Box.set (i := 0) bR5.out (.string (strT d))) (.slice a0 (kidsOf d).length c0)
      have z10 := z1.cell 0 rfl
      have z11 := z1.cell 1 rfl
      exact bodyPost_ret (v := .tuple #[.agg #[.string (strT d), .slice a0 (kidsOf d).length c0], .bool false]) (by simp [results, Try.results31, go_sem, z10, z11]) rfl (PutR.no hnone.out (putCells_below [.string (strT d), .slice a0 (kidsOf d).length c0] _ _ _ (w.heap.size + 1 + 1) 0 (by omega) hBw5.out))

  by_cases hB : path.length = 1 ∧ kind = 2
  · obtain ⟨hl1, hk1⟩ := hB
    subst hk1
    have hpn : Hid (ps = []) := by show _ = _; have := hps.out; rw [this] at hl1; simpa using hl1
    have hl1' : (path.length : Int) = 1 := by omega
    have e0 := bE5.out.cell 0 rfl
    have e1 := bE5.out.cell 1 rfl
    have hput : Hid (putD 2 tag tr path d = if inB d p = true then some (mkT (strT d) ((kidsOf d).eraseIdx p.toNat)) else none) := by
      show _ = _
      rw [hps.out, hpn.out]
      have q := putD_delete tag tr p [] d
      simp only [List.nil_append, okP, Bool.and_true, endP, List.foldl_nil, setP] at q
      exact q
    clear hl1 hA
    have hfw : ((kidsOf d).length : Int) ≤ 30 := by omega
    go_wp2_with fail
    refine (l1In_any _ _ _ _).mono ?_
    rintro e w6 ⟨rfl, e9⟩
    have e10 := e9.symm
    clear e9
    subst e10
    by_cases hin : inB d p = true
    · have hin2 : 0 ≤ p ∧ p < ((kidsOf d).length : Int) := by simpa [inB] using hin
      obtain ⟨hp0, hpn1⟩ := hin2
      have hpn2 : p ≤ ((kidsOf d).length : Int) - 1 := by omega
      rw [decide_eq_true hp0, decide_eq_true hpn2]
      obtain ⟨j, rfl⟩ := Int.eq_ofNat_of_zero_le hp0
      have hj : j < (kidsOf d).length := by omega
      obtain ⟨hr1, hr2, hr3, hr4, hr5, hr6⟩ := hrow.out.parts
      have hcl := hkc.out.1
      obtain ⟨ds1, hds1⟩ : ∃ ds1, (kidsOf d).take j = ds1 := ⟨_, rfl⟩
      obtain ⟨ds3, hds3⟩ : ∃ ds3, (kidsOf d).drop (j + 1) = ds3 := ⟨_, rfl⟩
      have hl1 : ds1.length = j := by rw [← hds1, List.length_take]; omega
      have hl3 : (kidsOf d).length - (j + 1) = ds3.length := by rw [← hds3, List.length_drop]
      obtain ⟨dsF, hdsF⟩ : ∃ dsF, ds1 ++ ds3 = dsF := ⟨_, rfl⟩
      obtain ⟨csF, hcsF⟩ : ∃ csF, css.take j ++ css.drop (j + 1) = csF := ⟨_, rfl⟩
      have hkF : Hid (KidsC w S n csF dsF) := by rw [← hdsF, ← hcsF, ← hds1, ← hds3]; exact (hkc.out.take j).app (hkc.out.drop (j + 1))
      have hlF : Hid (dsF.length = ds1.length + ds3.length) := by show _ = _; rw [← hdsF, List.length_append]
      have hsF : Hid (putD 2 tag tr path d = some (mkT (strT d) dsF)) := by
        show _ = _
        rw [hput.out, if_pos hin, ← hdsF, ← hds1, ← hds3, List.eraseIdx_eq_take_drop_succ]; simp
      have hsl1 : ∀ w, (Instr.slice 24 (.slice (some ⟨g, 0, none⟩) (kidsOf d).length cap) none (some (.int .i64 (j : Int))) none).run Try.prog w = .ok (.slice (some ⟨g, 0, none⟩) ds1.length cap) w := fun w => by rw [hl1]; exact sl_to_row g _ cap j (by omega) w
      obtain ⟨o3, c3, hsl3, ho3⟩ : ∃ o3 c3, (∀ w, (Instr.slice 24 (.slice (some ⟨g, 0, none⟩) (kidsOf d).length cap) (some (.int .i64 ((j : Int) + 1))) none none).run Try.prog w = .ok (.slice (some ⟨g, o3, none⟩) ds3.length c3) w) ∧ (0 < ds3.length → o3 = 0 + (j + 1) * 2) := by
        obtain ⟨o', c', q1, q2⟩ := sl_from_row g (kidsOf d).length cap (j + 1) hj (by omega)
        rw [hl3] at q1 q2
        exact ⟨o', c', fun w => by have := q1 w; simpa using this, q2⟩
      have hc3 : CellsAt w5 g o3 (css.drop (j + 1)) := by
        rcases Nat.eq_zero_or_pos ds3.length with q | q
        · have : css.drop (j + 1) = [] := List.eq_nil_of_length_eq_zero (by rw [List.length_drop]; omega)
          rw [this]; intro i u hu; simp at hu
        · rw [ho3 q]; exact hr5.drop hkc.out.2.1 (by omega)
      have hk3 : KidsC w S n (css.drop (j + 1)) ds3 := by rw [← hds3]; exact hkc.out.drop (j + 1)
      have hnw : Hid ((css.drop (j + 1)).flatten.length = ds3.length * 2) := by show _ = _; rw [css_len hk3.2.1, hk3.1]
      have hnc : Hid (∀ i u, (css.drop (j + 1)).flatten[i]? = some u → w5.drew.cell? ((⟨g, o3, none⟩ : Addr).add i) = some u) := fun i u hu => by rw [add_lit]; exact hc3 i u hu
      have hno : Hid (∀ u ∈ (css.drop (j + 1)).flatten, u.oneCell' = true) := fun u hu => by obtain ⟨cs, hcs, hu2⟩ := List.mem_flatten.1 hu; exact hk3.one cs hcs u hu2
      have hroom : Hid (ds1.length + ds3.length ≤ cap) := by show _ ≤ _; omega
      have hsp : Hid (∀ i, i < (css.drop (j + 1)).flatten.length → (w5.drew.cell? ⟨g, 0 + ds1.length * 2 + i, none⟩).isSome = true ∧ w5.drew.frozen? ⟨g, 0 + ds1.length * 2 + i, none⟩ = false) := fun i hi => by
        rw [hnw.out] at hi
        exact hr6 (0 + ds1.length * 2 + i) (by omega)
      have hg5 : Hid (g < w5.heap.size) := hr2
      have hr1' : Hid (W.heap.size ≤ g) := hr1
      have hr5' : Hid (CellsAt w5 g 0 css) := hr5
      have hcF : Hid (css.take j ++ css.drop (j + 1) = csF) := hcsF
      have hl1' : Hid (ds1.length = j) := hl1
      have hj' : Hid (j < css.length) := by show _ < _; omega
      have hjb : (j : Int) < 30 := by omega
      have hwr : Hid (IntKind.i64.wrap ((j : Int) + 1) = (j : Int) + 1) := by show _ = _; rw [IntKind.wrap_i64]; omega
      have hlb : dsF.length ≤ 30 := by have := hlF.out; omega
      have bT5' := bT5
      clear hput hin hpn1 hpn2 hl1 hl3 ho3 hds1 hds3 hdsF hcsF hr1 hr2 hr3 hr4 hr5 hr6 hcl hc3 hk3 bT5'
      go_upto_region 15 with fail
      refine wp_region_held_drew (S := fun w' => w'.cell? ⟨w.heap.size, 0, none⟩ = some (.string (strT d))) (by kernel_rfl) (bT5.out.cell 0 rfl) (fun hHeld => ?_)
      refine tq (i := 0) (d := 82) ?_
      simp only [sz, ss]
      refine tq (i := 1) (d := 83) ?_
      simp only [sz, ss]
      refine tq (i := 2) (d := 84) ?_
      simp only [sz, ss]
      refine tq (i := 3) (d := 85) ?_
      simp only [sz, ss]
      refine tq (i := 4) (d := 86) ?_
      simp only [sz, ss]
      refine tq (i := 5) (d := 87) ?_
      simp only [sz, ss]
      refine tq (i := 6) (d := 88) ?_
      simp only [sz, ss]
      refine take_lit (i := 7) (d := 89) (v := .int .i64 ((j : Int) + 1)) rfl rfl (by kernel_rfl) (by kernel_rfl) (by kernel_rfl) (fun _ _ _ h => h) (Or.inl ⟨by rfl, ?_⟩) (by assumption) ?_
      · intro w9 hS9; go_simp; exact hwr.out
      simp only [sz, ss]
      refine tq (i := 8) (d := 90) ?_
      simp only [sz, ss]
      refine wpAnyH_ready (rs := [9]) (by kernel_rfl) (by simp) ?_
      refine AllReadyH.cons rfl (fun K hK => ?_) AllReadyH.nil
      refine step_append_room rfl _ _ 24 rfl 26 iT 2 Try.underlying24 hiT.out heT.out.2.1 g 0 ds1.length cap rfl ⟨g, o3, none⟩ ds3.length c3 (css.drop (j + 1)).flatten rfl hnw.out hnc.out hno.out hroom.out hsp.out ?_
      obtain ⟨w10, hw10⟩ : ∃ w10, w5.drew.setCells g (0 + ds1.length * 2) (css.drop (j + 1)).flatten = w10 := ⟨_, rfl⟩
      rw [hw10]
      have hB10 : Hid (Below (w.heap.size + 3) w5 w10) := by rw [← hw10, setCells_putc]; exact putCells_below _ _ _ _ g _ (by have := hWsz.out; have := hr1'.out; omega) (Below.drew (Below.refl _ _))
      have hCF0 : Hid (CellsAt w10 g 0 csF) := by rw [← hw10, ← hcF.out, hl1'.out]; exact cells_cut (w := w5.drew) hr5'.out hkc.out.2.1 (by have := hj'.out; omega)
      have hz10 : Hid (g < w10.heap.size) := by show _ < _; rw [← hw10, set_cells_size]; exact hg5.out
      have bT10 : Hid (Box w10 w.heap.size [.string (strT d), .slice a0 (kidsOf d).length c0] 26) := bT5.out.below hB10.out (by omega)
      have bR10 : Hid (Box w10 (w.heap.size + 1 + 1) [.string ⟨#[]⟩, .slice none 0 0] 26) := bR5.out.below hB10.out (by omega)
      rw [show ds1.length + ds3.length = dsF.length from hlF.out.symm]
      clear hw10
      refine hK.out _ _ (bT10.out.cell 0 rfl) (fun hHeld => ?_)
      clear hK K
      refine tq (i := 10) (d := 92) ?_
      simp only [sz, ss]
      refine wpAnyH_ready (rs := [11]) (by kernel_rfl) (by simp) ?_
      refine AllReadyH.cons rfl (fun K hK => ?_) AllReadyH.nil
      have r0 := bR10.out.cell 0 rfl
      have r1 := bR10.out.cell 1 rfl
      have fR := bR10.out.unfrozen
      have bR11 : Hid (Box (putCells w10 (w.heap.size + 1 + 1) 0 [.string (strT d), .slice (some ⟨g, 0, none⟩) dsF.length cap]) (w.heap.size + 1 + 1) [.string (strT d), .slice (some ⟨g, 0, none⟩) dsF.length cap] 26) := (bR10.out.set (i := 0) _).set (i := 1) _
      have bT11 : Hid (Box (putCells w10 (w.heap.size + 1 + 1) 0 [.string (strT d), .slice (some ⟨g, 0, none⟩) dsF.length cap]) w.heap.size [.string (strT d), .slice a0 (kidsOf d).length c0] 26) := (putCells_other _ _ _ _ _ (by omega)).trans bT10.out
      go_simp
      refine hK.out _ _ (bT11.out.cell 0 rfl) (fun hHeld => ?_)
      clear hK K
      refine tq (i := 12) (d := 5) ?_
      simp only [sz, ss]
      refine wpAnyH_done (by kernel_rfl) ?_ _
      go_wp2_with fail
      have s0 := bR11.out.cell 0 rfl
      have s1 := bR11.out.cell 1 rfl
      have hBF : Below w.heap.size w (putCells w10 (w.heap.size + 1 + 1) 0 [.string (strT d), .slice (some ⟨g, 0, none⟩) dsF.length cap]) := putCells_below [.string (strT d), .slice (some ⟨g, 0, none⟩) dsF.length cap] _ _ _ (w.heap.size + 1 + 1) 0 (by omega) (hBw5.out.trans (hB10.out.mono (by omega)))
      have hCF : CellsAt (putCells w10 (w.heap.size + 1 + 1) 0 [.string (strT d), .slice (some ⟨g, 0, none⟩) dsF.length cap]) g 0 csF := hCF0.out.keep (putCells_other [.string (strT d), .slice (some ⟨g, 0, none⟩) dsF.length cap] w10 (w.heap.size + 1 + 1) 0 g (by have := hWsz.out; have := hr1'.out; omega))
      exact bodyPost_ret (v := .tuple #[.agg #[.string (strT d), .slice (some ⟨g, 0, none⟩) dsF.length cap], .bool true]) (by simp only [putCells] at s0 s1; simp [results, Try.results31, go_sem, s0, s1]) rfl (PutR.yes hsF.out (hkF.out.low hBF.size (newS_keep hBF) (by have := hlF.out; unfold maxLen; omega) hCF (fun _ => ⟨Or.inr ⟨by have := hWsz.out; have := hr1'.out; omega, by rw [putCells_size]; exact hz10.out⟩, by rw [putCells_size]; exact hz10.out⟩) hdsz.out) hBF)
    · have hnone : Hid (putD 2 tag tr path d = none) := by show _ = _; rw [hput.out, if_neg hin]
      have hdec : (decide (0 ≤ p) && decide (p ≤ ((kidsOf d).length : Int) - 1)) = false := by
        rcases Classical.em (0 ≤ p) with q | q
        · have hq : ¬ (p ≤ ((kidsOf d).length : Int) - 1) := fun r => hin (by simp only [inB, Bool.and_eq_true, decide_eq_true_eq]; omega)
          rw [decide_eq_false hq]; simp
        · rw [decide_eq_false q]; rfl
      rw [hdec]
      clear hdec hin
      have t0 := bT5.out.cell 0 rfl
      have t1 := bT5.out.cell 1 rfl
      have r0 := bR5.out.cell 0 rfl
      have r1 := bR5.out.cell 1 rfl
      have fR := bR5.out.unfrozen
      go_wp2_with fail
      have z1 := Box.set (i := 1) (Box.set (i := 0) bR5.out (.string (strT d))) (.slice a0 (kidsOf d).length c0)
      have z10 := z1.cell 0 rfl
      have z11 := z1.cell 1 rfl
      exact bodyPost_ret (v := .tuple #[.agg #[.string (strT d), .slice a0 (kidsOf d).length c0], .bool false]) (by simp [results, Try.results31, go_sem, z10, z11]) rfl (PutR.no hnone.out (putCells_below [.string (strT d), .slice a0 (kidsOf d).length c0] _ _ _ (w.heap.size + 1 + 1) 0 (by omega) hBw5.out))

  · have hput : Hid (putD kind tag tr path d = if inB d p = true then (putD kind tag tr ps (kidP d p)).map (fun x => mkT (strT d) ((kidsOf d).set p.toNat x)) else none) := by
      show _ = _
      have hq : ps = [] → path.length = 1 := fun e => by rw [hps.out, e]; rfl
      have h1 : ¬ (ps = [] ∧ kind = 1) := fun q => hA ⟨hq q.1, q.2⟩
      have h2 : ¬ (ps = [] ∧ kind = 2) := fun q => hB ⟨hq q.1, q.2⟩
      conv => lhs; rw [hps.out]; unfold putD
      rw [if_neg h1, if_neg h2]
    by_cases hl1 : path.length = 1
    · have hl1' : (path.length : Int) = 1 := by omega
      have hk1 : (kind == 1) = false := by simp; exact fun e => hA ⟨hl1, e⟩
      have hk2 : (kind == 2) = false := by simp; exact fun e => hB ⟨hl1, e⟩
      clear hA hB hl1
      have e0 := bE5.out.cell 0 rfl
      have e1 := bE5.out.cell 1 rfl
      have hfw : ((kidsOf d).length : Int) ≤ 30 := by omega
      go_wp2_with fail
      refine (l1In_any _ _ _ _).mono ?_
      rintro e w6 ⟨rfl, e9⟩
      have e10 := e9.symm
      clear e9
      subst e10
      by_cases hin : inB d p = true
      · have hin2 : 0 ≤ p ∧ p < ((kidsOf d).length : Int) := by simpa [inB] using hin
        obtain ⟨hp0, hpn1⟩ := hin2
        have hpn2 : p ≤ ((kidsOf d).length : Int) - 1 := by omega
        rw [decide_eq_true hp0, decide_eq_true hpn2]
        obtain ⟨j, rfl⟩ := Int.eq_ofNat_of_zero_le hp0
        have hj : j < (kidsOf d).length := by omega
        obtain ⟨hr1, hr2, hr3, hr4, hr5, hr6⟩ := hrow.out.parts
        have hcl := hkc.out.1
        obtain ⟨D, hD⟩ : ∃ D, (kidsOf d)[j] = D := ⟨_, rfl⟩
        obtain ⟨tk, kk, ecs, hDS0⟩ := hkc.out.2.2 j hj (by omega)
        rw [hD] at hDS0
        obtain ⟨rfl, _⟩ := hDS0.at.tag
        obtain ⟨_, a2, c2, rfl⟩ := hDS0.at.form
        have hDS : Hid (TreeS w S n (.string (strT D)) (.slice a2 (kidsOf D).length c2) D) := hDS0
        have hRD : Hid (RightT D) := by
          have q := hR.out.nth hj
          have e3 : nth (kidsOf d) j = D := by rw [← hD]; simp [nth, List.getD, List.getElem?_eq_getElem hj]
          rw [e3] at q; exact q
        have hput2 : Hid (putD kind tag tr path d = (putD kind tag tr ps D).map (fun x => mkT (strT d) ((kidsOf d).set j x))) := by
          show _ = _
          rw [hput.out, if_pos hin]
          have e3 : kidP d (j : Int) = D := by rw [← hD]; simp [kidP, nth, List.getD, List.getElem?_eq_getElem hj]
          rw [e3]; simp
        obtain ⟨o9, c9, hslp, hpsq0⟩ := path_tail hps.out hpq.out
        have hpsq : Hid (SeqAt 1 IntAt w 0 (.slice (some ⟨bp, o9, none⟩) ps.length c9) ps) := hpsq0
        have hcall : Hid (∀ W', Below w.heap.size w W' → Calls Try.prog 31 #[.agg #[.string (strT D), .slice a2 (kidsOf D).length c2], .agg #[.int .i64 kind, .slice (some ⟨bp, o9, none⟩) ps.length c9, .string tag, .string (strT tr), .slice at1 (kidsOf tr).length ct]] W' fun e w' => PutR W' w' S kind tag tr ps D e) := fun W' hb =>
          ih.out W' S n nt _ _ _ _ _ D tr ps kind tag (by have := hm'.out; rw [hps.out] at this; simpa using this) (fun b q => Nat.lt_of_lt_of_le (hSl'.out b q) hb.size) (TreeS.keep hb.size (fun b q1 q2 => ⟨q1, hb.block b q2⟩) _ _ _ _ hDS.out) hRD.out (hpsq.out.below intAt_stays hb) htg.out (TreeS.keep hb.size (fun b q1 q2 => ⟨q1, hb.block b q2⟩) _ _ _ _ htt.out)
        have hf0 : css.flatten[j * 2 + 0]? = some (.string (strT D)) := by rw [css_get hkc.out.2.1 (by omega) (by omega), ecs]; rfl
        have hf1 : css.flatten[j * 2 + 1]? = some (.slice a2 (kidsOf D).length c2) := by rw [css_get hkc.out.2.1 (by omega) (by omega), ecs]; rfl
        have hg5 : Hid (g < w5.heap.size) := hr2
        have hgT : Hid (w.heap.size + 3 ≤ g) := by show _ ≤ _; have := hWsz.out; omega
        have hr5' : Hid (CellsAt w5 g 0 css) := hr5
        have hj' : Hid (j < css.length) := by show _ < _; omega
        have hSall : Hid (∀ W', Below w5.heap.size w5 W' → W'.cell? ⟨g, j * 2, none⟩ = some (.string (strT D)) ∧ W'.cell? ⟨g, j * 2 + 1, none⟩ = some (.slice a2 (kidsOf D).length c2) ∧ W'.cell? ⟨(w.heap.size + 1), 0, none⟩ = some (.int .i64 kind) ∧ W'.cell? ⟨(w.heap.size + 1), 1, none⟩ = some (.slice (some ⟨bp, op, none⟩) path.length cp) ∧ W'.cell? ⟨(w.heap.size + 1), 2, none⟩ = some (.string tag) ∧ W'.cell? ⟨(w.heap.size + 1), 3, none⟩ = some (.string (strT tr)) ∧ W'.cell? ⟨(w.heap.size + 1), 4, none⟩ = some (.slice at1 (kidsOf tr).length ct)) := fun W' hb => by
          have bE9 := bE5.out.below hb bE5.out.lt
          have x0 := (hr5.keep (hb.block g hr2)) _ _ hf0
          have x1 := (hr5.keep (hb.block g hr2)) _ _ hf1
          simp only [Nat.zero_add, Nat.add_zero] at x0 x1
          exact ⟨x0, x1, bE9.cell 0 rfl, bE9.cell 1 rfl, bE9.cell 2 rfl, bE9.cell 3 rfl, bE9.cell 4 rfl⟩
        have hfroz : Hid (∀ W' : World, W'.heap[g]? = w5.heap[g]? → ∀ i, W'.frozen? ⟨g, i, none⟩ = false) := fun W' hb i => by
          rcases hrow.out.2 with ⟨q, _⟩ | ⟨g', cap', cur, q, _, q2, _⟩
          · cases q
          · injection q with q1 _ _
            injection q1 with q1
            injection q1 with q1
            subst q1
            exact blk_unfrozen (hb.trans q2) i
        have hjb : (j : Int) < ((kidsOf d).length : Int) := hpn1
        have hj0 : (0 : Int) ≤ (j : Int) := hp0
        clear hput hin hpn1 hpn2 hr1 hr2 hr3 hr4 hr5 hr6 hcl ecs hDS0 hD hpsq0 hf0 hf1 hp0
        go_upto_region 16 with fail
        refine wp_region_held_drew (S := fun w' => w'.cell? ⟨g, j * 2, none⟩ = some (.string (strT D)) ∧ w'.cell? ⟨g, j * 2 + 1, none⟩ = some (.slice a2 (kidsOf D).length c2) ∧ w'.cell? ⟨(w.heap.size + 1), 0, none⟩ = some (.int .i64 kind) ∧ w'.cell? ⟨(w.heap.size + 1), 1, none⟩ = some (.slice (some ⟨bp, op, none⟩) path.length cp) ∧ w'.cell? ⟨(w.heap.size + 1), 2, none⟩ = some (.string tag) ∧ w'.cell? ⟨(w.heap.size + 1), 3, none⟩ = some (.string (strT tr)) ∧ w'.cell? ⟨(w.heap.size + 1), 4, none⟩ = some (.slice at1 (kidsOf tr).length ct)) (by kernel_rfl) (hSall.out _ (Below.drew (Below.refl _ _))) (fun hHeld => ?_)
        refine tq (i := 0) (d := 94) ?_
        simp only [sz, ss]
        refine tq (i := 1) (d := 95) ?_
        simp only [sz, ss]
        refine tq (i := 2) (d := 96) ?_
        simp only [sz, ss]
        refine tq (i := 3) (d := 97) ?_
        simp only [sz, ss]
        refine tq (i := 4) (d := 98) ?_
        simp only [sz, ss]
        refine tq (i := 5) (d := 99) ?_
        simp only [sz, ss]
        refine tq (i := 6) (d := 100) ?_
        simp only [sz, ss]
        refine tq (i := 7) (d := 101) ?_
        simp only [sz, ss]
        refine tq (i := 8) (d := 102) ?_
        simp only [sz, ss]
        refine tq (i := 9) (d := 103) ?_
        simp only [sz, ss]
        refine tq (i := 10) (d := 104) ?_
        simp only [sz, ss]
        refine tq (i := 11) (d := 105) ?_
        simp only [sz, ss]
        refine tq (i := 12) (d := 106) ?_
        simp only [sz, ss]
        refine tq (i := 13) (d := 107) ?_
        simp only [sz, ss]
        refine wpAnyH_ready (rs := [14, 18]) (by kernel_rfl) (by simp) ?_
        refine (AllReadyH.cons rfl (fun K hK => ?_) (AllReadyH.cons rfl (fun K hK => ?_) AllReadyH.nil))
        · go_simp
          refine (hcall.out w5.drew (hBw5.out.trans ((Below.drew (Below.refl w5.heap.size w5)).mono hBw5.out.size))).mono ?_
          rintro e w8 ⟨s8, a8, l8, c8, b8, rfl, hres0, hb8⟩
          have hres8 : Hid ((b8 = true ∧ ∃ x n', putD kind tag tr ps D = some x ∧ TreeS w8 (NewS S w5.drew w8) n' (.string s8) (.slice a8 l8 c8) x) ∨ (b8 = false ∧ putD kind tag tr ps D = none)) := hres0
          have hB8 : Hid (Below w5.heap.size w5 w8) := (Below.drew (Below.refl w5.heap.size w5)).trans (hb8.mono (by simp))
          clear hb8 hres0
          refine hK.out _ _ (hSall.out _ hB8.out) (fun hHeld => ?_)
          clear hK K
          refine tq (i := 15) (d := 93) ?_
          simp only [sz, ss]
          refine tq (i := 16) (d := 109) ?_
          simp only [sz, ss]
          refine tq (i := 17) (d := 110) ?_
          simp only [sz, ss]
          refine wpAnyH_ready (rs := [18]) (by kernel_rfl) (by simp) ?_
          refine AllReadyH.cons rfl (fun K hK => ?_) AllReadyH.nil
          go_simp
          refine hK.out _ _ (hSall.out _ (hB8.out.alloc hB8.out.size _)) (fun hHeld => ?_)
          clear hK K
          refine wpAnyH_ready (rs := [19]) (by kernel_rfl) (by simp) ?_
          refine AllReadyH.cons rfl (fun K hK => ?_) AllReadyH.nil
          have bK : Hid (Box (w8.alloc (.cells #[.string s8, .slice a8 l8 c8] 26)) w8.heap.size [.string s8, .slice a8 l8 c8] 26) := Box.new w8 _ _
          have hBz : Hid (Below w5.heap.size w5 (w8.alloc (.cells #[.string s8, .slice a8 l8 c8] 26))) := hB8.out.alloc hB8.out.size _
          have hWZ : Hid (∀ b, w5.heap.size ≤ b → b < w8.heap.size → (w8.alloc (.cells #[.string s8, .slice a8 l8 c8] 26)).heap[b]? = w8.heap[b]?) := fun b _ h => Below.heap_alloc w8 _ _ h
          have hzz : Hid (w8.heap.size ≤ (w8.alloc (.cells #[.string s8, .slice a8 l8 c8] 26)).heap.size) := by show _ ≤ _; simp
          go_simp
          refine hK.out _ _ (hSall.out _ hBz.out) (fun hHeld => ?_)
          clear hK K
          refine tq (i := 20) (d := 11) ?_
          simp only [sz, ss]
          refine wpAnyH_done (by kernel_rfl) ?_ _
          have k0 := bK.out.cell 0 rfl
          have k1 := bK.out.cell 1 rfl
          have hgz := hBz.out.block g hg5.out
          have y0 := (hSall.out _ hBz.out).1
          have y1 := (hSall.out _ hBz.out).2.1
          have fG : ∀ i, (w8.alloc (.cells #[.string s8, .slice a8 l8 c8] 26)).frozen? ⟨g, i, none⟩ = false := fun i => hfroz.out _ hgz i
          have bTy : Hid (Box (((w8.alloc (.cells #[.string s8, .slice a8 l8 c8] 26)).setCell ⟨g, j * 2, none⟩ (.string s8)).setCell ⟨g, j * 2 + 1, none⟩ (.slice a8 l8 c8)) w.heap.size [.string (strT d), .slice a0 (kidsOf d).length c0] 26) := ((bT5.out.below hBz.out bT5.out.lt).other (by have := hgT.out; omega) _).other (by have := hgT.out; omega) _
          have bRy : Hid (Box (((w8.alloc (.cells #[.string s8, .slice a8 l8 c8] 26)).setCell ⟨g, j * 2, none⟩ (.string s8)).setCell ⟨g, j * 2 + 1, none⟩ (.slice a8 l8 c8)) (w.heap.size + 1 + 1) [.string ⟨#[]⟩, .slice none 0 0] 26) := ((bR5.out.below hBz.out bR5.out.lt).other (by have := hgT.out; omega) _).other (by have := hgT.out; omega) _
          have t0 := bTy.out.cell 0 rfl
          have r0 := bRy.out.cell 0 rfl
          have r1 := bRy.out.cell 1 rfl
          have fR := bRy.out.unfrozen
          have hCY : Hid (CellsAt (((w8.alloc (.cells #[.string s8, .slice a8 l8 c8] 26)).setCell ⟨g, j * 2, none⟩ (.string s8)).setCell ⟨g, j * 2 + 1, none⟩ (.slice a8 l8 c8)) g 0 (css.set j [.string s8, .slice a8 l8 c8])) := cells_set (w := (w8.alloc (.cells #[.string s8, .slice a8 l8 c8] 26))) (hr5'.out.keep hgz) hkc.out.2.1 hj'.out
          have bRF : Hid (Box (putCells (((w8.alloc (.cells #[.string s8, .slice a8 l8 c8] 26)).setCell ⟨g, j * 2, none⟩ (.string s8)).setCell ⟨g, j * 2 + 1, none⟩ (.slice a8 l8 c8)) (w.heap.size + 1 + 1) 0 [.string (strT d), .slice (some ⟨g, 0, none⟩) (kidsOf d).length cap]) (w.heap.size + 1 + 1) [.string (strT d), .slice (some ⟨g, 0, none⟩) (kidsOf d).length cap] 26) := (bRy.out.set (i := 0) _).set (i := 1) _
          have hBY : Hid (Below w.heap.size w (((w8.alloc (.cells #[.string s8, .slice a8 l8 c8] 26)).setCell ⟨g, j * 2, none⟩ (.string s8)).setCell ⟨g, j * 2 + 1, none⟩ (.slice a8 l8 c8))) := ((hBw5.out.trans (hBz.out.mono hBw5.out.size)).setCell (p := ⟨g, j * 2, none⟩) (by have := hgT.out; show _ ≤ g; omega) _).setCell (p := ⟨g, j * 2 + 1, none⟩) (by have := hgT.out; show _ ≤ g; omega) _
          clear hgz
          go_wp2_with fail
          have s0 := bRF.out.cell 0 rfl
          have s1 := bRF.out.cell 1 rfl
          have hBF : Below w.heap.size w (putCells (((w8.alloc (.cells #[.string s8, .slice a8 l8 c8] 26)).setCell ⟨g, j * 2, none⟩ (.string s8)).setCell ⟨g, j * 2 + 1, none⟩ (.slice a8 l8 c8)) (w.heap.size + 1 + 1) 0 [.string (strT d), .slice (some ⟨g, 0, none⟩) (kidsOf d).length cap]) := putCells_below [.string (strT d), .slice (some ⟨g, 0, none⟩) (kidsOf d).length cap] _ _ _ (w.heap.size + 1 + 1) 0 (by omega) hBY.out
          have hCF : CellsAt (putCells (((w8.alloc (.cells #[.string s8, .slice a8 l8 c8] 26)).setCell ⟨g, j * 2, none⟩ (.string s8)).setCell ⟨g, j * 2 + 1, none⟩ (.slice a8 l8 c8)) (w.heap.size + 1 + 1) 0 [.string (strT d), .slice (some ⟨g, 0, none⟩) (kidsOf d).length cap]) g 0 (css.set j [.string s8, .slice a8 l8 c8]) := hCY.out.keep (putCells_other [.string (strT d), .slice (some ⟨g, 0, none⟩) (kidsOf d).length cap] _ (w.heap.size + 1 + 1) 0 g (by have := hgT.out; omega))
          have hszF : (w8.alloc (.cells #[.string s8, .slice a8 l8 c8] 26)).heap.size ≤ (putCells (((w8.alloc (.cells #[.string s8, .slice a8 l8 c8] 26)).setCell ⟨g, j * 2, none⟩ (.string s8)).setCell ⟨g, j * 2 + 1, none⟩ (.slice a8 l8 c8)) (w.heap.size + 1 + 1) 0 [.string (strT d), .slice (some ⟨g, 0, none⟩) (kidsOf d).length cap]).heap.size := by rw [putCells_size]; exact Nat.le_of_eq (by simp)
          refine bodyPost_ret (v := .tuple #[.agg #[.string (strT d), .slice (some ⟨g, 0, none⟩) (kidsOf d).length cap], .bool b8]) (by simp only [putCells] at s0 s1; simp [results, Try.results31, go_sem, s0, s1]) rfl ?_
          rcases hres8.out with ⟨rfl, x8, n8, hp8, ht8⟩ | ⟨rfl, hp8⟩
          · have hkF : KidsC (putCells (((w8.alloc (.cells #[.string s8, .slice a8 l8 c8] 26)).setCell ⟨g, j * 2, none⟩ (.string s8)).setCell ⟨g, j * 2 + 1, none⟩ (.slice a8 l8 c8)) (w.heap.size + 1 + 1) 0 [.string (strT d), .slice (some ⟨g, 0, none⟩) (kidsOf d).length cap]) (NewS S w (putCells (((w8.alloc (.cells #[.string s8, .slice a8 l8 c8] 26)).setCell ⟨g, j * 2, none⟩ (.string s8)).setCell ⟨g, j * 2 + 1, none⟩ (.slice a8 l8 c8)) (w.heap.size + 1 + 1) 0 [.string (strT d), .slice (some ⟨g, 0, none⟩) (kidsOf d).length cap])) (n + n8) (css.set j [.string s8, .slice a8 l8 c8]) ((kidsOf d).set j x8) := by
              refine KidsC.set ((hkc.out.mono (by omega)).keep hBF.size (newS_keep hBF)) j (TreeS.keep (Nat.le_trans hzz.out hszF) (fun b hb hlt => ?_) _ _ _ _ (ht8.mono (by omega)))
              rcases hb with hb | ⟨hb1, hb2⟩
              · have q := hSl'.out b hb
                exact ⟨Or.inl hb, by rw [hBF.block b q, (hBw5.out.trans (hB8.out.mono hBw5.out.size)).block b q]⟩
              · have hb3 : w5.heap.size ≤ b := by simpa using hb1
                have hgs := hg5.out
                have hT9 := bR5.out.lt
                refine ⟨Or.inr ⟨by omega, by have := hzz.out; omega⟩, ?_⟩
                rw [putCells_other [.string (strT d), .slice (some ⟨g, 0, none⟩) (kidsOf d).length cap] _ (w.heap.size + 1 + 1) 0 b (by omega), set_other (by omega), set_other (by omega)]; exact hWZ.out b hb3 hb2
            refine PutR.yes (x := mkT (strT d) ((kidsOf d).set j x8)) (n' := n + n8 + 1) (by rw [hput2.out, hp8]; rfl) ?_ hBF
            have hrs := row_s (c := cap) hkF hCF (fun _ => ⟨Or.inr ⟨by have := hgT.out; omega, by have := hg5.out; have := hzz.out; have := hB8.out.size; omega⟩, by have := hg5.out; have := hzz.out; have := hB8.out.size; omega⟩) (by rw [List.length_set]; unfold maxLen; omega)
            rw [List.length_set] at hrs
            exact ⟨⟨strT d, rfl, hdsz.out, rfl⟩, hrs⟩
          · exact PutR.no (by rw [hput2.out, hp8]; rfl) hBF
        · go_simp
          refine hK.out _ _ (hSall.out _ ((Below.drew (Below.refl w5.heap.size w5)).alloc (Nat.le_refl _) _)) (fun hHeld => ?_)
          clear hK K
          refine wpAnyH_ready (rs := [14]) (by kernel_rfl) (by simp) ?_
          refine AllReadyH.cons rfl (fun K hK => ?_) AllReadyH.nil
          go_simp
          refine (hcall.out (w5.drew.alloc (.cells #[.string ⟨#[]⟩, .slice none 0 0] 26)) (hBw5.out.trans (((Below.drew (Below.refl w5.heap.size w5)).alloc (Nat.le_refl _) _).mono hBw5.out.size))).mono ?_
          rintro e w8 ⟨s8, a8, l8, c8, b8, rfl, hres0, hb8⟩
          have hres8 : Hid ((b8 = true ∧ ∃ x n', putD kind tag tr ps D = some x ∧ TreeS w8 (NewS S (w5.drew.alloc (.cells #[.string ⟨#[]⟩, .slice none 0 0] 26)) w8) n' (.string s8) (.slice a8 l8 c8) x) ∨ (b8 = false ∧ putD kind tag tr ps D = none)) := hres0
          have hB8 : Hid (Below w5.heap.size w5 w8) := ((Below.drew (Below.refl w5.heap.size w5)).alloc (Nat.le_refl _) _).trans (hb8.mono (by simp))
          have bZ8 : Hid (Box w8 w5.heap.size [.string ⟨#[]⟩, .slice none 0 0] 26) := (Box.new w5.drew [.string ⟨#[]⟩, .slice none 0 0] 26).below hb8 (by simp)
          clear hb8 hres0
          refine hK.out _ _ (hSall.out _ hB8.out) (fun hHeld => ?_)
          clear hK K
          refine tq (i := 15) (d := 93) ?_
          simp only [sz, ss]
          refine tq (i := 16) (d := 109) ?_
          simp only [sz, ss]
          refine tq (i := 17) (d := 110) ?_
          simp only [sz, ss]
          refine wpAnyH_ready (rs := [19]) (by kernel_rfl) (by simp) ?_
          refine AllReadyH.cons rfl (fun K hK => ?_) AllReadyH.nil
          have z0 := bZ8.out.cell 0 rfl
          have z1 := bZ8.out.cell 1 rfl
          have fZ := bZ8.out.unfrozen
          have bK : Hid (Box ((w8.setCell ⟨w5.heap.size, 0, none⟩ (.string s8)).setCell ⟨w5.heap.size, 1, none⟩ (.slice a8 l8 c8)) w5.heap.size [.string s8, .slice a8 l8 c8] 26) := (bZ8.out.set (i := 0) _).set (i := 1) _
          have hBz : Hid (Below w5.heap.size w5 ((w8.setCell ⟨w5.heap.size, 0, none⟩ (.string s8)).setCell ⟨w5.heap.size, 1, none⟩ (.slice a8 l8 c8))) := (hB8.out.setCell (p := ⟨w5.heap.size, 0, none⟩) (Nat.le_refl _) _).setCell (p := ⟨w5.heap.size, 1, none⟩) (Nat.le_refl _) _
          have hWZ : Hid (∀ b, w5.heap.size + 1 ≤ b → b < w8.heap.size → ((w8.setCell ⟨w5.heap.size, 0, none⟩ (.string s8)).setCell ⟨w5.heap.size, 1, none⟩ (.slice a8 l8 c8)).heap[b]? = w8.heap[b]?) := fun b h _ => putCells_other [.string s8, .slice a8 l8 c8] w8 w5.heap.size 0 b (by omega)
          have hzz : Hid (w8.heap.size ≤ ((w8.setCell ⟨w5.heap.size, 0, none⟩ (.string s8)).setCell ⟨w5.heap.size, 1, none⟩ (.slice a8 l8 c8)).heap.size) := by show _ ≤ _; rw [set_size, set_size]; exact Nat.le_refl _
          go_simp
          refine hK.out _ _ (hSall.out _ hBz.out) (fun hHeld => ?_)
          clear hK K
          refine tq (i := 20) (d := 11) ?_
          simp only [sz, ss]
          refine wpAnyH_done (by kernel_rfl) ?_ _
          have k0 := bK.out.cell 0 rfl
          have k1 := bK.out.cell 1 rfl
          have hgz := hBz.out.block g hg5.out
          have y0 := (hSall.out _ hBz.out).1
          have y1 := (hSall.out _ hBz.out).2.1
          have fG : ∀ i, ((w8.setCell ⟨w5.heap.size, 0, none⟩ (.string s8)).setCell ⟨w5.heap.size, 1, none⟩ (.slice a8 l8 c8)).frozen? ⟨g, i, none⟩ = false := fun i => hfroz.out _ hgz i
          have bTy : Hid (Box ((((w8.setCell ⟨w5.heap.size, 0, none⟩ (.string s8)).setCell ⟨w5.heap.size, 1, none⟩ (.slice a8 l8 c8)).setCell ⟨g, j * 2, none⟩ (.string s8)).setCell ⟨g, j * 2 + 1, none⟩ (.slice a8 l8 c8)) w.heap.size [.string (strT d), .slice a0 (kidsOf d).length c0] 26) := ((bT5.out.below hBz.out bT5.out.lt).other (by have := hgT.out; omega) _).other (by have := hgT.out; omega) _
          have bRy : Hid (Box ((((w8.setCell ⟨w5.heap.size, 0, none⟩ (.string s8)).setCell ⟨w5.heap.size, 1, none⟩ (.slice a8 l8 c8)).setCell ⟨g, j * 2, none⟩ (.string s8)).setCell ⟨g, j * 2 + 1, none⟩ (.slice a8 l8 c8)) (w.heap.size + 1 + 1) [.string ⟨#[]⟩, .slice none 0 0] 26) := ((bR5.out.below hBz.out bR5.out.lt).other (by have := hgT.out; omega) _).other (by have := hgT.out; omega) _
          have t0 := bTy.out.cell 0 rfl
          have r0 := bRy.out.cell 0 rfl
          have r1 := bRy.out.cell 1 rfl
          have fR := bRy.out.unfrozen
          have hCY : Hid (CellsAt ((((w8.setCell ⟨w5.heap.size, 0, none⟩ (.string s8)).setCell ⟨w5.heap.size, 1, none⟩ (.slice a8 l8 c8)).setCell ⟨g, j * 2, none⟩ (.string s8)).setCell ⟨g, j * 2 + 1, none⟩ (.slice a8 l8 c8)) g 0 (css.set j [.string s8, .slice a8 l8 c8])) := cells_set (w := ((w8.setCell ⟨w5.heap.size, 0, none⟩ (.string s8)).setCell ⟨w5.heap.size, 1, none⟩ (.slice a8 l8 c8))) (hr5'.out.keep hgz) hkc.out.2.1 hj'.out
          have bRF : Hid (Box (putCells ((((w8.setCell ⟨w5.heap.size, 0, none⟩ (.string s8)).setCell ⟨w5.heap.size, 1, none⟩ (.slice a8 l8 c8)).setCell ⟨g, j * 2, none⟩ (.string s8)).setCell ⟨g, j * 2 + 1, none⟩ (.slice a8 l8 c8)) (w.heap.size + 1 + 1) 0 [.string (strT d), .slice (some ⟨g, 0, none⟩) (kidsOf d).length cap]) (w.heap.size + 1 + 1) [.string (strT d), .slice (some ⟨g, 0, none⟩) (kidsOf d).length cap] 26) := (bRy.out.set (i := 0) _).set (i := 1) _
          have hBY : Hid (Below w.heap.size w ((((w8.setCell ⟨w5.heap.size, 0, none⟩ (.string s8)).setCell ⟨w5.heap.size, 1, none⟩ (.slice a8 l8 c8)).setCell ⟨g, j * 2, none⟩ (.string s8)).setCell ⟨g, j * 2 + 1, none⟩ (.slice a8 l8 c8))) := ((hBw5.out.trans (hBz.out.mono hBw5.out.size)).setCell (p := ⟨g, j * 2, none⟩) (by have := hgT.out; show _ ≤ g; omega) _).setCell (p := ⟨g, j * 2 + 1, none⟩) (by have := hgT.out; show _ ≤ g; omega) _
          clear hgz
          go_wp2_with fail
          have s0 := bRF.out.cell 0 rfl
          have s1 := bRF.out.cell 1 rfl
          have hBF : Below w.heap.size w (putCells ((((w8.setCell ⟨w5.heap.size, 0, none⟩ (.string s8)).setCell ⟨w5.heap.size, 1, none⟩ (.slice a8 l8 c8)).setCell ⟨g, j * 2, none⟩ (.string s8)).setCell ⟨g, j * 2 + 1, none⟩ (.slice a8 l8 c8)) (w.heap.size + 1 + 1) 0 [.string (strT d), .slice (some ⟨g, 0, none⟩) (kidsOf d).length cap]) := putCells_below [.string (strT d), .slice (some ⟨g, 0, none⟩) (kidsOf d).length cap] _ _ _ (w.heap.size + 1 + 1) 0 (by omega) hBY.out
          have hCF : CellsAt (putCells ((((w8.setCell ⟨w5.heap.size, 0, none⟩ (.string s8)).setCell ⟨w5.heap.size, 1, none⟩ (.slice a8 l8 c8)).setCell ⟨g, j * 2, none⟩ (.string s8)).setCell ⟨g, j * 2 + 1, none⟩ (.slice a8 l8 c8)) (w.heap.size + 1 + 1) 0 [.string (strT d), .slice (some ⟨g, 0, none⟩) (kidsOf d).length cap]) g 0 (css.set j [.string s8, .slice a8 l8 c8]) := hCY.out.keep (putCells_other [.string (strT d), .slice (some ⟨g, 0, none⟩) (kidsOf d).length cap] _ (w.heap.size + 1 + 1) 0 g (by have := hgT.out; omega))
          have hszF : ((w8.setCell ⟨w5.heap.size, 0, none⟩ (.string s8)).setCell ⟨w5.heap.size, 1, none⟩ (.slice a8 l8 c8)).heap.size ≤ (putCells ((((w8.setCell ⟨w5.heap.size, 0, none⟩ (.string s8)).setCell ⟨w5.heap.size, 1, none⟩ (.slice a8 l8 c8)).setCell ⟨g, j * 2, none⟩ (.string s8)).setCell ⟨g, j * 2 + 1, none⟩ (.slice a8 l8 c8)) (w.heap.size + 1 + 1) 0 [.string (strT d), .slice (some ⟨g, 0, none⟩) (kidsOf d).length cap]).heap.size := by rw [putCells_size]; exact Nat.le_of_eq (by simp)
          refine bodyPost_ret (v := .tuple #[.agg #[.string (strT d), .slice (some ⟨g, 0, none⟩) (kidsOf d).length cap], .bool b8]) (by simp only [putCells] at s0 s1; simp [results, Try.results31, go_sem, s0, s1]) rfl ?_
          rcases hres8.out with ⟨rfl, x8, n8, hp8, ht8⟩ | ⟨rfl, hp8⟩
          · have hkF : KidsC (putCells ((((w8.setCell ⟨w5.heap.size, 0, none⟩ (.string s8)).setCell ⟨w5.heap.size, 1, none⟩ (.slice a8 l8 c8)).setCell ⟨g, j * 2, none⟩ (.string s8)).setCell ⟨g, j * 2 + 1, none⟩ (.slice a8 l8 c8)) (w.heap.size + 1 + 1) 0 [.string (strT d), .slice (some ⟨g, 0, none⟩) (kidsOf d).length cap]) (NewS S w (putCells ((((w8.setCell ⟨w5.heap.size, 0, none⟩ (.string s8)).setCell ⟨w5.heap.size, 1, none⟩ (.slice a8 l8 c8)).setCell ⟨g, j * 2, none⟩ (.string s8)).setCell ⟨g, j * 2 + 1, none⟩ (.slice a8 l8 c8)) (w.heap.size + 1 + 1) 0 [.string (strT d), .slice (some ⟨g, 0, none⟩) (kidsOf d).length cap])) (n + n8) (css.set j [.string s8, .slice a8 l8 c8]) ((kidsOf d).set j x8) := by
              refine KidsC.set ((hkc.out.mono (by omega)).keep hBF.size (newS_keep hBF)) j (TreeS.keep (Nat.le_trans hzz.out hszF) (fun b hb hlt => ?_) _ _ _ _ (ht8.mono (by omega)))
              rcases hb with hb | ⟨hb1, hb2⟩
              · have q := hSl'.out b hb
                exact ⟨Or.inl hb, by rw [hBF.block b q, (hBw5.out.trans (hB8.out.mono hBw5.out.size)).block b q]⟩
              · have hb3 : w5.heap.size + 1 ≤ b := by simpa using hb1
                have hgs := hg5.out
                have hT9 := bR5.out.lt
                refine ⟨Or.inr ⟨by omega, by have := hzz.out; omega⟩, ?_⟩
                rw [putCells_other [.string (strT d), .slice (some ⟨g, 0, none⟩) (kidsOf d).length cap] _ (w.heap.size + 1 + 1) 0 b (by omega), set_other (by omega), set_other (by omega)]; exact hWZ.out b hb3 hb2
            refine PutR.yes (x := mkT (strT d) ((kidsOf d).set j x8)) (n' := n + n8 + 1) (by rw [hput2.out, hp8]; rfl) ?_ hBF
            have hrs := row_s (c := cap) hkF hCF (fun _ => ⟨Or.inr ⟨by have := hgT.out; omega, by have := hg5.out; have := hzz.out; have := hB8.out.size; omega⟩, by have := hg5.out; have := hzz.out; have := hB8.out.size; omega⟩) (by rw [List.length_set]; unfold maxLen; omega)
            rw [List.length_set] at hrs
            exact ⟨⟨strT d, rfl, hdsz.out, rfl⟩, hrs⟩
          · exact PutR.no (by rw [hput2.out, hp8]; rfl) hBF
      · have hnone : Hid (putD kind tag tr path d = none) := by show _ = _; rw [hput.out, if_neg hin]
        have hdec : (decide (0 ≤ p) && decide (p ≤ ((kidsOf d).length : Int) - 1)) = false := by
          rcases Classical.em (0 ≤ p) with q | q
          · have hq : ¬ (p ≤ ((kidsOf d).length : Int) - 1) := fun r => hin (by simp only [inB, Bool.and_eq_true, decide_eq_true_eq]; omega)
            rw [decide_eq_false hq]; simp
          · rw [decide_eq_false q]; rfl
        rw [hdec]
        clear hdec hin
        have t0 := bT5.out.cell 0 rfl
        have t1 := bT5.out.cell 1 rfl
        have r0 := bR5.out.cell 0 rfl
        have r1 := bR5.out.cell 1 rfl
        have fR := bR5.out.unfrozen
        go_wp2_with fail
        have z1 := Box.set (i := 1) (Box.set (i := 0) bR5.out (.string (strT d))) (.slice a0 (kidsOf d).length c0)
        have z10 := z1.cell 0 rfl
        have z11 := z1.cell 1 rfl
        exact bodyPost_ret (v := .tuple #[.agg #[.string (strT d), .slice a0 (kidsOf d).length c0], .bool false]) (by simp [results, Try.results31, go_sem, z10, z11]) rfl (PutR.no hnone.out (putCells_below [.string (strT d), .slice a0 (kidsOf d).length c0] _ _ _ (w.heap.size + 1 + 1) 0 (by omega) hBw5.out))
    · have hl1' : ((path.length : Int) == 1) = false := by simp; omega
      clear hA hB hl1
      have e0 := bE5.out.cell 0 rfl
      have e1 := bE5.out.cell 1 rfl
      have hfw : ((kidsOf d).length : Int) ≤ 30 := by omega
      go_wp2_with fail
      refine (l1In_any _ _ _ _).mono ?_
      rintro e w6 ⟨rfl, e9⟩
      have e10 := e9.symm
      clear e9
      subst e10
      by_cases hin : inB d p = true
      · have hin2 : 0 ≤ p ∧ p < ((kidsOf d).length : Int) := by simpa [inB] using hin
        obtain ⟨hp0, hpn1⟩ := hin2
        have hpn2 : p ≤ ((kidsOf d).length : Int) - 1 := by omega
        rw [decide_eq_true hp0, decide_eq_true hpn2]
        obtain ⟨j, rfl⟩ := Int.eq_ofNat_of_zero_le hp0
        have hj : j < (kidsOf d).length := by omega
        obtain ⟨hr1, hr2, hr3, hr4, hr5, hr6⟩ := hrow.out.parts
        have hcl := hkc.out.1
        obtain ⟨D, hD⟩ : ∃ D, (kidsOf d)[j] = D := ⟨_, rfl⟩
        obtain ⟨tk, kk, ecs, hDS0⟩ := hkc.out.2.2 j hj (by omega)
        rw [hD] at hDS0
        obtain ⟨rfl, _⟩ := hDS0.at.tag
        obtain ⟨_, a2, c2, rfl⟩ := hDS0.at.form
        have hDS : Hid (TreeS w S n (.string (strT D)) (.slice a2 (kidsOf D).length c2) D) := hDS0
        have hRD : Hid (RightT D) := by
          have q := hR.out.nth hj
          have e3 : nth (kidsOf d) j = D := by rw [← hD]; simp [nth, List.getD, List.getElem?_eq_getElem hj]
          rw [e3] at q; exact q
        have hput2 : Hid (putD kind tag tr path d = (putD kind tag tr ps D).map (fun x => mkT (strT d) ((kidsOf d).set j x))) := by
          show _ = _
          rw [hput.out, if_pos hin]
          have e3 : kidP d (j : Int) = D := by rw [← hD]; simp [kidP, nth, List.getD, List.getElem?_eq_getElem hj]
          rw [e3]; simp
        obtain ⟨o9, c9, hslp, hpsq0⟩ := path_tail hps.out hpq.out
        have hpsq : Hid (SeqAt 1 IntAt w 0 (.slice (some ⟨bp, o9, none⟩) ps.length c9) ps) := hpsq0
        have hcall : Hid (∀ W', Below w.heap.size w W' → Calls Try.prog 31 #[.agg #[.string (strT D), .slice a2 (kidsOf D).length c2], .agg #[.int .i64 kind, .slice (some ⟨bp, o9, none⟩) ps.length c9, .string tag, .string (strT tr), .slice at1 (kidsOf tr).length ct]] W' fun e w' => PutR W' w' S kind tag tr ps D e) := fun W' hb =>
          ih.out W' S n nt _ _ _ _ _ D tr ps kind tag (by have := hm'.out; rw [hps.out] at this; simpa using this) (fun b q => Nat.lt_of_lt_of_le (hSl'.out b q) hb.size) (TreeS.keep hb.size (fun b q1 q2 => ⟨q1, hb.block b q2⟩) _ _ _ _ hDS.out) hRD.out (hpsq.out.below intAt_stays hb) htg.out (TreeS.keep hb.size (fun b q1 q2 => ⟨q1, hb.block b q2⟩) _ _ _ _ htt.out)
        have hf0 : css.flatten[j * 2 + 0]? = some (.string (strT D)) := by rw [css_get hkc.out.2.1 (by omega) (by omega), ecs]; rfl
        have hf1 : css.flatten[j * 2 + 1]? = some (.slice a2 (kidsOf D).length c2) := by rw [css_get hkc.out.2.1 (by omega) (by omega), ecs]; rfl
        have hg5 : Hid (g < w5.heap.size) := hr2
        have hgT : Hid (w.heap.size + 3 ≤ g) := by show _ ≤ _; have := hWsz.out; omega
        have hr5' : Hid (CellsAt w5 g 0 css) := hr5
        have hj' : Hid (j < css.length) := by show _ < _; omega
        have hSall : Hid (∀ W', Below w5.heap.size w5 W' → W'.cell? ⟨g, j * 2, none⟩ = some (.string (strT D)) ∧ W'.cell? ⟨g, j * 2 + 1, none⟩ = some (.slice a2 (kidsOf D).length c2) ∧ W'.cell? ⟨(w.heap.size + 1), 0, none⟩ = some (.int .i64 kind) ∧ W'.cell? ⟨(w.heap.size + 1), 1, none⟩ = some (.slice (some ⟨bp, op, none⟩) path.length cp) ∧ W'.cell? ⟨(w.heap.size + 1), 2, none⟩ = some (.string tag) ∧ W'.cell? ⟨(w.heap.size + 1), 3, none⟩ = some (.string (strT tr)) ∧ W'.cell? ⟨(w.heap.size + 1), 4, none⟩ = some (.slice at1 (kidsOf tr).length ct)) := fun W' hb => by
          have bE9 := bE5.out.below hb bE5.out.lt
          have x0 := (hr5.keep (hb.block g hr2)) _ _ hf0
          have x1 := (hr5.keep (hb.block g hr2)) _ _ hf1
          simp only [Nat.zero_add, Nat.add_zero] at x0 x1
          exact ⟨x0, x1, bE9.cell 0 rfl, bE9.cell 1 rfl, bE9.cell 2 rfl, bE9.cell 3 rfl, bE9.cell 4 rfl⟩
        have hfroz : Hid (∀ W' : World, W'.heap[g]? = w5.heap[g]? → ∀ i, W'.frozen? ⟨g, i, none⟩ = false) := fun W' hb i => by
          rcases hrow.out.2 with ⟨q, _⟩ | ⟨g', cap', cur, q, _, q2, _⟩
          · cases q
          · injection q with q1 _ _
            injection q1 with q1
            injection q1 with q1
            subst q1
            exact blk_unfrozen (hb.trans q2) i
        have hjb : (j : Int) < ((kidsOf d).length : Int) := hpn1
        have hj0 : (0 : Int) ≤ (j : Int) := hp0
        clear hput hin hpn1 hpn2 hr1 hr2 hr3 hr4 hr5 hr6 hcl ecs hDS0 hD hpsq0 hf0 hf1 hp0
        go_upto_region 16 with fail
        refine wp_region_held_drew (S := fun w' => w'.cell? ⟨g, j * 2, none⟩ = some (.string (strT D)) ∧ w'.cell? ⟨g, j * 2 + 1, none⟩ = some (.slice a2 (kidsOf D).length c2) ∧ w'.cell? ⟨(w.heap.size + 1), 0, none⟩ = some (.int .i64 kind) ∧ w'.cell? ⟨(w.heap.size + 1), 1, none⟩ = some (.slice (some ⟨bp, op, none⟩) path.length cp) ∧ w'.cell? ⟨(w.heap.size + 1), 2, none⟩ = some (.string tag) ∧ w'.cell? ⟨(w.heap.size + 1), 3, none⟩ = some (.string (strT tr)) ∧ w'.cell? ⟨(w.heap.size + 1), 4, none⟩ = some (.slice at1 (kidsOf tr).length ct)) (by kernel_rfl) (hSall.out _ (Below.drew (Below.refl _ _))) (fun hHeld => ?_)
        refine tq (i := 0) (d := 94) ?_
        simp only [sz, ss]
        refine tq (i := 1) (d := 95) ?_
        simp only [sz, ss]
        refine tq (i := 2) (d := 96) ?_
        simp only [sz, ss]
        refine tq (i := 3) (d := 97) ?_
        simp only [sz, ss]
        refine tq (i := 4) (d := 98) ?_
        simp only [sz, ss]
        refine tq (i := 5) (d := 99) ?_
        simp only [sz, ss]
        refine tq (i := 6) (d := 100) ?_
        simp only [sz, ss]
        refine tq (i := 7) (d := 101) ?_
        simp only [sz, ss]
        refine tq (i := 8) (d := 102) ?_
        simp only [sz, ss]
        refine tq (i := 9) (d := 103) ?_
        simp only [sz, ss]
        refine tq (i := 10) (d := 104) ?_
        simp only [sz, ss]
        refine tq (i := 11) (d := 105) ?_
        simp only [sz, ss]
        refine tq (i := 12) (d := 106) ?_
        simp only [sz, ss]
        refine tq (i := 13) (d := 107) ?_
        simp only [sz, ss]
        refine wpAnyH_ready (rs := [14, 18]) (by kernel_rfl) (by simp) ?_
        refine (AllReadyH.cons rfl (fun K hK => ?_) (AllReadyH.cons rfl (fun K hK => ?_) AllReadyH.nil))
        · go_simp
          refine (hcall.out w5.drew (hBw5.out.trans ((Below.drew (Below.refl w5.heap.size w5)).mono hBw5.out.size))).mono ?_
          rintro e w8 ⟨s8, a8, l8, c8, b8, rfl, hres0, hb8⟩
          have hres8 : Hid ((b8 = true ∧ ∃ x n', putD kind tag tr ps D = some x ∧ TreeS w8 (NewS S w5.drew w8) n' (.string s8) (.slice a8 l8 c8) x) ∨ (b8 = false ∧ putD kind tag tr ps D = none)) := hres0
          have hB8 : Hid (Below w5.heap.size w5 w8) := (Below.drew (Below.refl w5.heap.size w5)).trans (hb8.mono (by simp))
          clear hb8 hres0
          refine hK.out _ _ (hSall.out _ hB8.out) (fun hHeld => ?_)
          clear hK K
          refine tq (i := 15) (d := 93) ?_
          simp only [sz, ss]
          refine tq (i := 16) (d := 109) ?_
          simp only [sz, ss]
          refine tq (i := 17) (d := 110) ?_
          simp only [sz, ss]
          refine wpAnyH_ready (rs := [18]) (by kernel_rfl) (by simp) ?_
          refine AllReadyH.cons rfl (fun K hK => ?_) AllReadyH.nil
          go_simp
          refine hK.out _ _ (hSall.out _ (hB8.out.alloc hB8.out.size _)) (fun hHeld => ?_)
          clear hK K
          refine wpAnyH_ready (rs := [19]) (by kernel_rfl) (by simp) ?_
          refine AllReadyH.cons rfl (fun K hK => ?_) AllReadyH.nil
          have bK : Hid (Box (w8.alloc (.cells #[.string s8, .slice a8 l8 c8] 26)) w8.heap.size [.string s8, .slice a8 l8 c8] 26) := Box.new w8 _ _
          have hBz : Hid (Below w5.heap.size w5 (w8.alloc (.cells #[.string s8, .slice a8 l8 c8] 26))) := hB8.out.alloc hB8.out.size _
          have hWZ : Hid (∀ b, w5.heap.size ≤ b → b < w8.heap.size → (w8.alloc (.cells #[.string s8, .slice a8 l8 c8] 26)).heap[b]? = w8.heap[b]?) := fun b _ h => Below.heap_alloc w8 _ _ h
          have hzz : Hid (w8.heap.size ≤ (w8.alloc (.cells #[.string s8, .slice a8 l8 c8] 26)).heap.size) := by show _ ≤ _; simp
          go_simp
          refine hK.out _ _ (hSall.out _ hBz.out) (fun hHeld => ?_)
          clear hK K
          refine tq (i := 20) (d := 11) ?_
          simp only [sz, ss]
          refine wpAnyH_done (by kernel_rfl) ?_ _
          have k0 := bK.out.cell 0 rfl
          have k1 := bK.out.cell 1 rfl
          have hgz := hBz.out.block g hg5.out
          have y0 := (hSall.out _ hBz.out).1
          have y1 := (hSall.out _ hBz.out).2.1
          have fG : ∀ i, (w8.alloc (.cells #[.string s8, .slice a8 l8 c8] 26)).frozen? ⟨g, i, none⟩ = false := fun i => hfroz.out _ hgz i
          have bTy : Hid (Box (((w8.alloc (.cells #[.string s8, .slice a8 l8 c8] 26)).setCell ⟨g, j * 2, none⟩ (.string s8)).setCell ⟨g, j * 2 + 1, none⟩ (.slice a8 l8 c8)) w.heap.size [.string (strT d), .slice a0 (kidsOf d).length c0] 26) := ((bT5.out.below hBz.out bT5.out.lt).other (by have := hgT.out; omega) _).other (by have := hgT.out; omega) _
          have bRy : Hid (Box (((w8.alloc (.cells #[.string s8, .slice a8 l8 c8] 26)).setCell ⟨g, j * 2, none⟩ (.string s8)).setCell ⟨g, j * 2 + 1, none⟩ (.slice a8 l8 c8)) (w.heap.size + 1 + 1) [.string ⟨#[]⟩, .slice none 0 0] 26) := ((bR5.out.below hBz.out bR5.out.lt).other (by have := hgT.out; omega) _).other (by have := hgT.out; omega) _
          have t0 := bTy.out.cell 0 rfl
          have r0 := bRy.out.cell 0 rfl
          have r1 := bRy.out.cell 1 rfl
          have fR := bRy.out.unfrozen
          have hCY : Hid (CellsAt (((w8.alloc (.cells #[.string s8, .slice a8 l8 c8] 26)).setCell ⟨g, j * 2, none⟩ (.string s8)).setCell ⟨g, j * 2 + 1, none⟩ (.slice a8 l8 c8)) g 0 (css.set j [.string s8, .slice a8 l8 c8])) := cells_set (w := (w8.alloc (.cells #[.string s8, .slice a8 l8 c8] 26))) (hr5'.out.keep hgz) hkc.out.2.1 hj'.out
          have bRF : Hid (Box (putCells (((w8.alloc (.cells #[.string s8, .slice a8 l8 c8] 26)).setCell ⟨g, j * 2, none⟩ (.string s8)).setCell ⟨g, j * 2 + 1, none⟩ (.slice a8 l8 c8)) (w.heap.size + 1 + 1) 0 [.string (strT d), .slice (some ⟨g, 0, none⟩) (kidsOf d).length cap]) (w.heap.size + 1 + 1) [.string (strT d), .slice (some ⟨g, 0, none⟩) (kidsOf d).length cap] 26) := (bRy.out.set (i := 0) _).set (i := 1) _
          have hBY : Hid (Below w.heap.size w (((w8.alloc (.cells #[.string s8, .slice a8 l8 c8] 26)).setCell ⟨g, j * 2, none⟩ (.string s8)).setCell ⟨g, j * 2 + 1, none⟩ (.slice a8 l8 c8))) := ((hBw5.out.trans (hBz.out.mono hBw5.out.size)).setCell (p := ⟨g, j * 2, none⟩) (by have := hgT.out; show _ ≤ g; omega) _).setCell (p := ⟨g, j * 2 + 1, none⟩) (by have := hgT.out; show _ ≤ g; omega) _
          clear hgz
          go_wp2_with fail
          have s0 := bRF.out.cell 0 rfl
          have s1 := bRF.out.cell 1 rfl
          have hBF : Below w.heap.size w (putCells (((w8.alloc (.cells #[.string s8, .slice a8 l8 c8] 26)).setCell ⟨g, j * 2, none⟩ (.string s8)).setCell ⟨g, j * 2 + 1, none⟩ (.slice a8 l8 c8)) (w.heap.size + 1 + 1) 0 [.string (strT d), .slice (some ⟨g, 0, none⟩) (kidsOf d).length cap]) := putCells_below [.string (strT d), .slice (some ⟨g, 0, none⟩) (kidsOf d).length cap] _ _ _ (w.heap.size + 1 + 1) 0 (by omega) hBY.out
          have hCF : CellsAt (putCells (((w8.alloc (.cells #[.string s8, .slice a8 l8 c8] 26)).setCell ⟨g, j * 2, none⟩ (.string s8)).setCell ⟨g, j * 2 + 1, none⟩ (.slice a8 l8 c8)) (w.heap.size + 1 + 1) 0 [.string (strT d), .slice (some ⟨g, 0, none⟩) (kidsOf d).length cap]) g 0 (css.set j [.string s8, .slice a8 l8 c8]) := hCY.out.keep (putCells_other [.string (strT d), .slice (some ⟨g, 0, none⟩) (kidsOf d).length cap] _ (w.heap.size + 1 + 1) 0 g (by have := hgT.out; omega))
          have hszF : (w8.alloc (.cells #[.string s8, .slice a8 l8 c8] 26)).heap.size ≤ (putCells (((w8.alloc (.cells #[.string s8, .slice a8 l8 c8] 26)).setCell ⟨g, j * 2, none⟩ (.string s8)).setCell ⟨g, j * 2 + 1, none⟩ (.slice a8 l8 c8)) (w.heap.size + 1 + 1) 0 [.string (strT d), .slice (some ⟨g, 0, none⟩) (kidsOf d).length cap]).heap.size := by rw [putCells_size]; exact Nat.le_of_eq (by simp)
          refine bodyPost_ret (v := .tuple #[.agg #[.string (strT d), .slice (some ⟨g, 0, none⟩) (kidsOf d).length cap], .bool b8]) (by simp only [putCells] at s0 s1; simp [results, Try.results31, go_sem, s0, s1]) rfl ?_
          rcases hres8.out with ⟨rfl, x8, n8, hp8, ht8⟩ | ⟨rfl, hp8⟩
          · have hkF : KidsC (putCells (((w8.alloc (.cells #[.string s8, .slice a8 l8 c8] 26)).setCell ⟨g, j * 2, none⟩ (.string s8)).setCell ⟨g, j * 2 + 1, none⟩ (.slice a8 l8 c8)) (w.heap.size + 1 + 1) 0 [.string (strT d), .slice (some ⟨g, 0, none⟩) (kidsOf d).length cap]) (NewS S w (putCells (((w8.alloc (.cells #[.string s8, .slice a8 l8 c8] 26)).setCell ⟨g, j * 2, none⟩ (.string s8)).setCell ⟨g, j * 2 + 1, none⟩ (.slice a8 l8 c8)) (w.heap.size + 1 + 1) 0 [.string (strT d), .slice (some ⟨g, 0, none⟩) (kidsOf d).length cap])) (n + n8) (css.set j [.string s8, .slice a8 l8 c8]) ((kidsOf d).set j x8) := by
              refine KidsC.set ((hkc.out.mono (by omega)).keep hBF.size (newS_keep hBF)) j (TreeS.keep (Nat.le_trans hzz.out hszF) (fun b hb hlt => ?_) _ _ _ _ (ht8.mono (by omega)))
              rcases hb with hb | ⟨hb1, hb2⟩
              · have q := hSl'.out b hb
                exact ⟨Or.inl hb, by rw [hBF.block b q, (hBw5.out.trans (hB8.out.mono hBw5.out.size)).block b q]⟩
              · have hb3 : w5.heap.size ≤ b := by simpa using hb1
                have hgs := hg5.out
                have hT9 := bR5.out.lt
                refine ⟨Or.inr ⟨by omega, by have := hzz.out; omega⟩, ?_⟩
                rw [putCells_other [.string (strT d), .slice (some ⟨g, 0, none⟩) (kidsOf d).length cap] _ (w.heap.size + 1 + 1) 0 b (by omega), set_other (by omega), set_other (by omega)]; exact hWZ.out b hb3 hb2
            refine PutR.yes (x := mkT (strT d) ((kidsOf d).set j x8)) (n' := n + n8 + 1) (by rw [hput2.out, hp8]; rfl) ?_ hBF
            have hrs := row_s (c := cap) hkF hCF (fun _ => ⟨Or.inr ⟨by have := hgT.out; omega, by have := hg5.out; have := hzz.out; have := hB8.out.size; omega⟩, by have := hg5.out; have := hzz.out; have := hB8.out.size; omega⟩) (by rw [List.length_set]; unfold maxLen; omega)
            rw [List.length_set] at hrs
            exact ⟨⟨strT d, rfl, hdsz.out, rfl⟩, hrs⟩
          · exact PutR.no (by rw [hput2.out, hp8]; rfl) hBF
        · go_simp
          refine hK.out _ _ (hSall.out _ ((Below.drew (Below.refl w5.heap.size w5)).alloc (Nat.le_refl _) _)) (fun hHeld => ?_)
          clear hK K
          refine wpAnyH_ready (rs := [14]) (by kernel_rfl) (by simp) ?_
          refine AllReadyH.cons rfl (fun K hK => ?_) AllReadyH.nil
          go_simp
          refine (hcall.out (w5.drew.alloc (.cells #[.string ⟨#[]⟩, .slice none 0 0] 26)) (hBw5.out.trans (((Below.drew (Below.refl w5.heap.size w5)).alloc (Nat.le_refl _) _).mono hBw5.out.size))).mono ?_
          rintro e w8 ⟨s8, a8, l8, c8, b8, rfl, hres0, hb8⟩
          have hres8 : Hid ((b8 = true ∧ ∃ x n', putD kind tag tr ps D = some x ∧ TreeS w8 (NewS S (w5.drew.alloc (.cells #[.string ⟨#[]⟩, .slice none 0 0] 26)) w8) n' (.string s8) (.slice a8 l8 c8) x) ∨ (b8 = false ∧ putD kind tag tr ps D = none)) := hres0
          have hB8 : Hid (Below w5.heap.size w5 w8) := ((Below.drew (Below.refl w5.heap.size w5)).alloc (Nat.le_refl _) _).trans (hb8.mono (by simp))
          have bZ8 : Hid (Box w8 w5.heap.size [.string ⟨#[]⟩, .slice none 0 0] 26) := (Box.new w5.drew [.string ⟨#[]⟩, .slice none 0 0] 26).below hb8 (by simp)
          clear hb8 hres0
          refine hK.out _ _ (hSall.out _ hB8.out) (fun hHeld => ?_)
          clear hK K
          refine tq (i := 15) (d := 93) ?_
          simp only [sz, ss]
          refine tq (i := 16) (d := 109) ?_
          simp only [sz, ss]
          refine tq (i := 17) (d := 110) ?_
          simp only [sz, ss]
          refine wpAnyH_ready (rs := [19]) (by kernel_rfl) (by simp) ?_
          refine AllReadyH.cons rfl (fun K hK => ?_) AllReadyH.nil
          have z0 := bZ8.out.cell 0 rfl
          have z1 := bZ8.out.cell 1 rfl
          have fZ := bZ8.out.unfrozen
          have bK : Hid (Box ((w8.setCell ⟨w5.heap.size, 0, none⟩ (.string s8)).setCell ⟨w5.heap.size, 1, none⟩ (.slice a8 l8 c8)) w5.heap.size [.string s8, .slice a8 l8 c8] 26) := (bZ8.out.set (i := 0) _).set (i := 1) _
          have hBz : Hid (Below w5.heap.size w5 ((w8.setCell ⟨w5.heap.size, 0, none⟩ (.string s8)).setCell ⟨w5.heap.size, 1, none⟩ (.slice a8 l8 c8))) := (hB8.out.setCell (p := ⟨w5.heap.size, 0, none⟩) (Nat.le_refl _) _).setCell (p := ⟨w5.heap.size, 1, none⟩) (Nat.le_refl _) _
          have hWZ : Hid (∀ b, w5.heap.size + 1 ≤ b → b < w8.heap.size → ((w8.setCell ⟨w5.heap.size, 0, none⟩ (.string s8)).setCell ⟨w5.heap.size, 1, none⟩ (.slice a8 l8 c8)).heap[b]? = w8.heap[b]?) := fun b h _ => putCells_other [.string s8, .slice a8 l8 c8] w8 w5.heap.size 0 b (by omega)
          have hzz : Hid (w8.heap.size ≤ ((w8.setCell ⟨w5.heap.size, 0, none⟩ (.string s8)).setCell ⟨w5.heap.size, 1, none⟩ (.slice a8 l8 c8)).heap.size) := by show _ ≤ _; rw [set_size, set_size]; exact Nat.le_refl _
          go_simp
          refine hK.out _ _ (hSall.out _ hBz.out) (fun hHeld => ?_)
          clear hK K
          refine tq (i := 20) (d := 11) ?_
          simp only [sz, ss]
          refine wpAnyH_done (by kernel_rfl) ?_ _
          have k0 := bK.out.cell 0 rfl
          have k1 := bK.out.cell 1 rfl
          have hgz := hBz.out.block g hg5.out
          have y0 := (hSall.out _ hBz.out).1
          have y1 := (hSall.out _ hBz.out).2.1
          have fG : ∀ i, ((w8.setCell ⟨w5.heap.size, 0, none⟩ (.string s8)).setCell ⟨w5.heap.size, 1, none⟩ (.slice a8 l8 c8)).frozen? ⟨g, i, none⟩ = false := fun i => hfroz.out _ hgz i
          have bTy : Hid (Box ((((w8.setCell ⟨w5.heap.size, 0, none⟩ (.string s8)).setCell ⟨w5.heap.size, 1, none⟩ (.slice a8 l8 c8)).setCell ⟨g, j * 2, none⟩ (.string s8)).setCell ⟨g, j * 2 + 1, none⟩ (.slice a8 l8 c8)) w.heap.size [.string (strT d), .slice a0 (kidsOf d).length c0] 26) := ((bT5.out.below hBz.out bT5.out.lt).other (by have := hgT.out; omega) _).other (by have := hgT.out; omega) _
          have bRy : Hid (Box ((((w8.setCell ⟨w5.heap.size, 0, none⟩ (.string s8)).setCell ⟨w5.heap.size, 1, none⟩ (.slice a8 l8 c8)).setCell ⟨g, j * 2, none⟩ (.string s8)).setCell ⟨g, j * 2 + 1, none⟩ (.slice a8 l8 c8)) (w.heap.size + 1 + 1) [.string ⟨#[]⟩, .slice none 0 0] 26) := ((bR5.out.below hBz.out bR5.out.lt).other (by have := hgT.out; omega) _).other (by have := hgT.out; omega) _
          have t0 := bTy.out.cell 0 rfl
          have r0 := bRy.out.cell 0 rfl
          have r1 := bRy.out.cell 1 rfl
          have fR := bRy.out.unfrozen
          have hCY : Hid (CellsAt ((((w8.setCell ⟨w5.heap.size, 0, none⟩ (.string s8)).setCell ⟨w5.heap.size, 1, none⟩ (.slice a8 l8 c8)).setCell ⟨g, j * 2, none⟩ (.string s8)).setCell ⟨g, j * 2 + 1, none⟩ (.slice a8 l8 c8)) g 0 (css.set j [.string s8, .slice a8 l8 c8])) := cells_set (w := ((w8.setCell ⟨w5.heap.size, 0, none⟩ (.string s8)).setCell ⟨w5.heap.size, 1, none⟩ (.slice a8 l8 c8))) (hr5'.out.keep hgz) hkc.out.2.1 hj'.out
          have bRF : Hid (Box (putCells ((((w8.setCell ⟨w5.heap.size, 0, none⟩ (.string s8)).setCell ⟨w5.heap.size, 1, none⟩ (.slice a8 l8 c8)).setCell ⟨g, j * 2, none⟩ (.string s8)).setCell ⟨g, j * 2 + 1, none⟩ (.slice a8 l8 c8)) (w.heap.size + 1 + 1) 0 [.string (strT d), .slice (some ⟨g, 0, none⟩) (kidsOf d).length cap]) (w.heap.size + 1 + 1) [.string (strT d), .slice (some ⟨g, 0, none⟩) (kidsOf d).length cap] 26) := (bRy.out.set (i := 0) _).set (i := 1) _
          have hBY : Hid (Below w.heap.size w ((((w8.setCell ⟨w5.heap.size, 0, none⟩ (.string s8)).setCell ⟨w5.heap.size, 1, none⟩ (.slice a8 l8 c8)).setCell ⟨g, j * 2, none⟩ (.string s8)).setCell ⟨g, j * 2 + 1, none⟩ (.slice a8 l8 c8))) := ((hBw5.out.trans (hBz.out.mono hBw5.out.size)).setCell (p := ⟨g, j * 2, none⟩) (by have := hgT.out; show _ ≤ g; omega) _).setCell (p := ⟨g, j * 2 + 1, none⟩) (by have := hgT.out; show _ ≤ g; omega) _
          clear hgz
          go_wp2_with fail
          have s0 := bRF.out.cell 0 rfl
          have s1 := bRF.out.cell 1 rfl
          have hBF : Below w.heap.size w (putCells ((((w8.setCell ⟨w5.heap.size, 0, none⟩ (.string s8)).setCell ⟨w5.heap.size, 1, none⟩ (.slice a8 l8 c8)).setCell ⟨g, j * 2, none⟩ (.string s8)).setCell ⟨g, j * 2 + 1, none⟩ (.slice a8 l8 c8)) (w.heap.size + 1 + 1) 0 [.string (strT d), .slice (some ⟨g, 0, none⟩) (kidsOf d).length cap]) := putCells_below [.string (strT d), .slice (some ⟨g, 0, none⟩) (kidsOf d).length cap] _ _ _ (w.heap.size + 1 + 1) 0 (by omega) hBY.out
          have hCF : CellsAt (putCells ((((w8.setCell ⟨w5.heap.size, 0, none⟩ (.string s8)).setCell ⟨w5.heap.size, 1, none⟩ (.slice a8 l8 c8)).setCell ⟨g, j * 2, none⟩ (.string s8)).setCell ⟨g, j * 2 + 1, none⟩ (.slice a8 l8 c8)) (w.heap.size + 1 + 1) 0 [.string (strT d), .slice (some ⟨g, 0, none⟩) (kidsOf d).length cap]) g 0 (css.set j [.string s8, .slice a8 l8 c8]) := hCY.out.keep (putCells_other [.string (strT d), .slice (some ⟨g, 0, none⟩) (kidsOf d).length cap] _ (w.heap.size + 1 + 1) 0 g (by have := hgT.out; omega))
          have hszF : ((w8.setCell ⟨w5.heap.size, 0, none⟩ (.string s8)).setCell ⟨w5.heap.size, 1, none⟩ (.slice a8 l8 c8)).heap.size ≤ (putCells ((((w8.setCell ⟨w5.heap.size, 0, none⟩ (.string s8)).setCell ⟨w5.heap.size, 1, none⟩ (.slice a8 l8 c8)).setCell ⟨g, j * 2, none⟩ (.string s8)).setCell ⟨g, j * 2 + 1, none⟩ (.slice a8 l8 c8)) (w.heap.size + 1 + 1) 0 [.string (strT d), .slice (some ⟨g, 0, none⟩) (kidsOf d).length cap]).heap.size := by rw [putCells_size]; exact Nat.le_of_eq (by simp)
          refine bodyPost_ret (v := .tuple #[.agg #[.string (strT d), .slice (some ⟨g, 0, none⟩) (kidsOf d).length cap], .bool b8]) (by simp only [putCells] at s0 s1; simp [results, Try.results31, go_sem, s0, s1]) rfl ?_
          rcases hres8.out with ⟨rfl, x8, n8, hp8, ht8⟩ | ⟨rfl, hp8⟩
          · have hkF : KidsC (putCells ((((w8.setCell ⟨w5.heap.size, 0, none⟩ (.string s8)).setCell ⟨w5.heap.size, 1, none⟩ (.slice a8 l8 c8)).setCell ⟨g, j * 2, none⟩ (.string s8)).setCell ⟨g, j * 2 + 1, none⟩ (.slice a8 l8 c8)) (w.heap.size + 1 + 1) 0 [.string (strT d), .slice (some ⟨g, 0, none⟩) (kidsOf d).length cap]) (NewS S w (putCells ((((w8.setCell ⟨w5.heap.size, 0, none⟩ (.string s8)).setCell ⟨w5.heap.size, 1, none⟩ (.slice a8 l8 c8)).setCell ⟨g, j * 2, none⟩ (.string s8)).setCell ⟨g, j * 2 + 1, none⟩ (.slice a8 l8 c8)) (w.heap.size + 1 + 1) 0 [.string (strT d), .slice (some ⟨g, 0, none⟩) (kidsOf d).length cap])) (n + n8) (css.set j [.string s8, .slice a8 l8 c8]) ((kidsOf d).set j x8) := by
              refine KidsC.set ((hkc.out.mono (by omega)).keep hBF.size (newS_keep hBF)) j (TreeS.keep (Nat.le_trans hzz.out hszF) (fun b hb hlt => ?_) _ _ _ _ (ht8.mono (by omega)))
              rcases hb with hb | ⟨hb1, hb2⟩
              · have q := hSl'.out b hb
                exact ⟨Or.inl hb, by rw [hBF.block b q, (hBw5.out.trans (hB8.out.mono hBw5.out.size)).block b q]⟩
              · have hb3 : w5.heap.size + 1 ≤ b := by simpa using hb1
                have hgs := hg5.out
                have hT9 := bR5.out.lt
                refine ⟨Or.inr ⟨by omega, by have := hzz.out; omega⟩, ?_⟩
                rw [putCells_other [.string (strT d), .slice (some ⟨g, 0, none⟩) (kidsOf d).length cap] _ (w.heap.size + 1 + 1) 0 b (by omega), set_other (by omega), set_other (by omega)]; exact hWZ.out b hb3 hb2
            refine PutR.yes (x := mkT (strT d) ((kidsOf d).set j x8)) (n' := n + n8 + 1) (by rw [hput2.out, hp8]; rfl) ?_ hBF
            have hrs := row_s (c := cap) hkF hCF (fun _ => ⟨Or.inr ⟨by have := hgT.out; omega, by have := hg5.out; have := hzz.out; have := hB8.out.size; omega⟩, by have := hg5.out; have := hzz.out; have := hB8.out.size; omega⟩) (by rw [List.length_set]; unfold maxLen; omega)
            rw [List.length_set] at hrs
            exact ⟨⟨strT d, rfl, hdsz.out, rfl⟩, hrs⟩
          · exact PutR.no (by rw [hput2.out, hp8]; rfl) hBF
      · have hnone : Hid (putD kind tag tr path d = none) := by show _ = _; rw [hput.out, if_neg hin]
        have hdec : (decide (0 ≤ p) && decide (p ≤ ((kidsOf d).length : Int) - 1)) = false := by
          rcases Classical.em (0 ≤ p) with q | q
          · have hq : ¬ (p ≤ ((kidsOf d).length : Int) - 1) := fun r => hin (by simp only [inB, Bool.and_eq_true, decide_eq_true_eq]; omega)
            rw [decide_eq_false hq]; simp
          · rw [decide_eq_false q]; rfl
        rw [hdec]
        clear hdec hin
        have t0 := bT5.out.cell 0 rfl
        have t1 := bT5.out.cell 1 rfl
        have r0 := bR5.out.cell 0 rfl
        have r1 := bR5.out.cell 1 rfl
        have fR := bR5.out.unfrozen
        go_wp2_with fail
        have z1 := Box.set (i := 1) (Box.set (i := 0) bR5.out (.string (strT d))) (.slice a0 (kidsOf d).length c0)
        have z10 := z1.cell 0 rfl
        have z11 := z1.cell 1 rfl
        exact bodyPost_ret (v := .tuple #[.agg #[.string (strT d), .slice a0 (kidsOf d).length c0], .bool false]) (by simp [results, Try.results31, go_sem, z10, z11]) rfl (PutR.no hnone.out (putCells_below [.string (strT d), .slice a0 (kidsOf d).length c0] _ _ _ (w.heap.size + 1 + 1) 0 (by omega) hBw5.out))

end Go.Proofs.Ytndffcogddefiaa
