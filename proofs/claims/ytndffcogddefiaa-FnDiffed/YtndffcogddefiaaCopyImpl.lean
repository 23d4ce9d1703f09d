/- treeCopy of the program, walked: a copy that owns its memory. -/
import Derived.Test.YtndffcogddefiaaTreeO
import Derived.Test.YtndffcogddefiaaRightPlain
import Derived.Test.YtndffcogddefiaaFillOver
import Derived.Test.YtndffcogddefiaaTakeLit
import Derived.Test.YtndffcogddefiaaWayImpl
namespace Go.Proofs.Ytndffcogddefiaa
open Go.RowKit
/-- a kid's cells, in an elder world -/
def KidC (w : World) (lo n : Nat) (cs : List Value) (D : TD) : Prop := ∃ t k, cs = [t, k] ∧ TreeAt w lo n t k D
theorem wpList_append_none {P : Program} {w : World} {ops : Array Oper} {rest : List Oper} {o : Oper} {a : Act} {Q : Exit → Act → World → Prop} (hgd : o.guard = none) (s x : Operand) (t e : TypeId) (i : TypeInfo)
    (ho : o.op = .call { callee := .builtin .append, args := #[s, x], argTypes := #[t, t] }) (ht : P.underlying t = some (.slice e)) (hi : P.info? e = some i) (hs : a.eval s = .slice none 0 0) (ad : Option Addr) (c : Nat) (hx : a.eval x = .slice ad 0 c)
    (h : wpList P ops Q rest (a.put o.dst (.slice none 0 0)) w) : wpList P ops Q (o :: rest) a w := by
  refine wpList_plain hgd fun K hK => ?_
  have hr := run_append_none (P := P) w t o.type e i ht hi ad c
  unfold Oper.wp execOp
  simp only [ho, resolve, invoke, builtin, Sem.run_bind, Sem.run_pure, Result.andThen_ok, List.map_toArray, List.map_cons, List.map_nil, hs, hx, hr]
  exact hK _ _ h
theorem row_cells {n : Nat} {w0 w : World} {lo : Nat} {b off : Nat} {ds : List TD} (hc : ∀ i, i < ds.length → ∃ t' k', w.cell? ⟨b, off + i * 2, none⟩ = some t' ∧ w.cell? ⟨b, off + i * 2 + 1, none⟩ = some k' ∧ TreeAt w0 lo n t' k' (nth ds i)) :
    ∃ css : List (List Value), css.length = ds.length ∧ (∀ cs ∈ css, cs.length = 2) ∧ (∀ i, (h : i < ds.length) → (h1 : i < css.length) → KidC w0 lo n css[i] ds[i]) ∧ (∀ u ∈ css.flatten, u.oneCell' = true) ∧ ∀ j u, css.flatten[j]? = some u → w.cell? ((⟨b, off, none⟩ : Addr).add j) = some u := by
  obtain ⟨css, hl, hp⟩ := list_of (n := ds.length) (p := fun i (cs : List Value) => ∃ t' k', cs = [t', k'] ∧ w.cell? ⟨b, off + i * 2, none⟩ = some t' ∧ w.cell? ⟨b, off + i * 2 + 1, none⟩ = some k' ∧ TreeAt w0 lo n t' k' (nth ds i)) (fun i hi => by obtain ⟨t', k', q⟩ := hc i hi; exact ⟨_, t', k', rfl, q⟩)
  have hlen : ∀ cs ∈ css, cs.length = 2 := fun cs hcm => by
    obtain ⟨i, hi, rfl⟩ := List.mem_iff_getElem.1 hcm
    obtain ⟨_, _, e, _⟩ := hp i hi
    rw [e]; rfl
  refine ⟨css, hl, hlen, fun i h h1 => ?_, fun u hu => ?_, fun j u hu => ?_⟩
  · obtain ⟨t', k', e, _, _, r⟩ := hp i h1
    have e3 : nth ds i = ds[i] := by simp [nth, List.getD, List.getElem?_eq_getElem h]
    rw [e3] at r
    exact ⟨t', k', e, r⟩
  · obtain ⟨cs, hcs, hu2⟩ := List.mem_flatten.1 hu
    obtain ⟨i, hi, rfl⟩ := List.mem_iff_getElem.1 hcs
    obtain ⟨t', k', e, _, _, r⟩ := hp i hi
    obtain ⟨rfl, _⟩ := r.tag
    obtain ⟨_, a2, cap2, rfl⟩ := r.form
    rw [e] at hu2
    simp at hu2
    rcases hu2 with rfl | rfl <;> rfl
  · have hj : j < css.length * 2 := by
      rw [← flat_len hlen]
      rcases Nat.lt_or_ge j css.flatten.length with r | r
      · exact r
      · rw [List.getElem?_eq_none r] at hu; simp at hu
    have hi : j / 2 < css.length := by omega
    have hjd : j / 2 * 2 + j % 2 = j := by omega
    obtain ⟨t', k', e, z0, z1, _⟩ := hp (j / 2) hi
    rw [← hjd, flat_get hlen hi (by omega), e] at hu
    have ea : (⟨b, off, none⟩ : Addr).add j = ⟨b, off + j, none⟩ := by unfold Addr.add; split <;> simp_all
    rw [ea]
    rcases Nat.mod_two_eq_zero_or_one j with q | q
    · rw [q] at hu hjd
      simp at hu
      subst hu
      rw [show off + j = off + j / 2 * 2 by omega]; exact z0
    · rw [q] at hu hjd
      simp at hu
      subst hu
      rw [show off + j = off + j / 2 * 2 + 1 by omega]; exact z1
def LcRes (w0 w w' : World) (lo n : Nat) (ds : List TD) (v : Value) : Prop :=
  (ds.length = 0 ∧ v = .slice none 0 0) ∨ (0 < ds.length ∧ ∃ (g cap : Nat) (css : List (List Value)), v = .slice (some ⟨g, 0, none⟩) ds.length cap ∧ ds.length ≤ cap ∧ w'.ownsRow w.heap.size 26 2 v ds.length css.flatten ∧ css.length = ds.length ∧ (∀ cs ∈ css, cs.length = 2) ∧ ∀ i, (h : i < ds.length) → (h1 : i < css.length) → KidC w0 lo n css[i] ds[i])
set_option maxHeartbeats 1000000 in
theorem listCopyT_any {n : Nat} {w0 w : World} {lo : Nat} {k : Value} {ds : List TD} (hrow : RowAt (TreeAt w0 lo n) w lo k ds) (hl : ds.length ≤ 30) :
    Calls Try.prog 56 #[k] w fun e w' => (∃ v, e = .returned v ∧ LcRes w0 w w' lo n ds v) ∧ Below w.heap.size w w' := by
  obtain ⟨a, cap, rfl, hm, hx⟩ := hrow
  obtain ⟨iT, hiT0, heT0, heT1, heT2⟩ := info_parts infoTree
  have hiT : Hid (Try.prog.info? 26 = some iT) := hiT0
  have heT : Hid (iT.zero = some (.agg #[.string ByteArray.empty, .slice none 0 0]) ∧ iT.size = 2 ∧ iT.bytes = 40) := ⟨heT0, heT1, heT2⟩
  clear hiT0 heT0 heT1 heT2
  by_cases h0 : ds.length = 0
  · rw [h0]
    have h0' : Hid (ds.length = 0) := h0
    clear hx hm h0 hl
    go_enter Try.func56, Try.ntmps56
    go_wp2_with (at_builtin; refine wpList_append_none rfl _ _ 24 26 iT rfl Try.underlying24 hiT.out rfl a cap rfl ?_)
    go_ret
    exact ⟨⟨_, rfl, Or.inl ⟨h0'.out, rfl⟩⟩, Below.refl _ _⟩
  obtain ⟨b, off, rfl, hlo, hbb, hc⟩ := hx (by omega)
  obtain ⟨css, q1, q2, q3, q4, q5⟩ := row_cells hc
  have q1' : Hid (css.length = ds.length) := q1
  have q2' : Hid (∀ cs ∈ css, cs.length = 2) := q2
  have q3' : Hid (∀ i, (h : i < ds.length) → (h1 : i < css.length) → KidC w0 lo n css[i] ds[i]) := q3
  have q4' : Hid (∀ u ∈ css.flatten, u.oneCell' = true) := q4
  have q5' : Hid (∀ j u, css.flatten[j]? = some u → w.cell? ((⟨b, off, none⟩ : Addr).add j) = some u) := q5
  clear hx hc q1 q2 q3 q4 q5 hm
  go_enter Try.func56, Try.ntmps56
  go_wp2_with (at_builtin; refine wpList_append_own_at _ rfl _ _ 24 rfl w.heap.size 26 iT _ 2 40 Try.underlying24 hiT.out heT.out.1 heT.out.2.1 heT.out.2.2 rfl (by decide) _ 0 [] rfl (World.ownsRow_nil _ _ _ _) ⟨b, off, none⟩ ds.length cap css.flatten rfl (by rw [flat_len q2'.out, q1'.out]) q5'.out q4'.out (by unfold maxLen; omega) (by omega) (Nat.le_refl _) ?_; intro v w1 hown hgrow hnil hat)
  have hown' : Hid (w1.ownsRow w.heap.size 26 2 v (0 + ds.length) ([] ++ css.flatten)) := hown
  have hb1 : Hid (Below w.heap.size w w1) := (Below.refl _ _).grown hgrow (Nat.le_refl _) (fun k e => by cases e)
  clear hown hgrow hnil hat
  go_ret
  refine ⟨⟨_, rfl, Or.inr ⟨by omega, ?_⟩⟩, hb1.out⟩
  have ho := hown'.out
  rw [Nat.zero_add, List.nil_append] at ho
  have ho2 := ho
  rcases ho.2 with ⟨_, hn⟩ | ⟨g, capg, cur, rfl, _, _, c1, _⟩
  · omega
  · exact ⟨g, capg, css, rfl, c1, ho2, q1'.out, q2'.out, q3'.out⟩
def CpI (n : Nat) : Prop := ∀ (w : World) (lo : Nat) (t k : Value) (d : TD), TreeAt w lo n t k d → RightT d →
    Calls Try.prog 36 #[.agg #[t, k]] w fun e w' => (∃ (cs : List Value) (fs : List Nat), e = .returned (.agg cs.toArray) ∧ TreeO n w' cs d fs ∧ fs.Nodup ∧ ∀ b ∈ fs, w.heap.size ≤ b) ∧ Below w.heap.size w w'
set_option maxRecDepth 100000 in
set_option maxHeartbeats 4000000 in
theorem cpI_step (n : Nat) (ih0 : CpI n) : CpI (n + 1) := by
  intro w lo t k d ht hR
  obtain ⟨rfl, hsz⟩ := ht.tag
  obtain ⟨_, a0, cap0, rfl⟩ := ht.form
  have ih : Hid (CpI n) := ih0
  have hrow : Hid (RowAt (TreeAt w lo n) w lo (.slice a0 (kidsOf d).length cap0) (kidsOf d)) := ht.2
  have hR' : Hid (RightT d) := hR
  have hsz' : Hid ((strT d).size ≤ maxLen) := hsz
  have hfew : (kidsOf d).length ≤ 30 := hR.few
  clear ih0 ht hR hsz
  have hb2 : Hid (Below w.heap.size w ((w.alloc (.cells #[.string (strT d), .slice a0 (kidsOf d).length cap0] 26)).alloc (.cells #[.string ⟨#[]⟩, .slice none 0 0] 26))) := ((Below.refl _ _).alloc (Nat.le_refl _) _).alloc (by simp) _
  have hz2 : ((w.alloc (.cells #[.string (strT d), .slice a0 (kidsOf d).length cap0] 26)).alloc (.cells #[.string ⟨#[]⟩, .slice none 0 0] 26)).heap.size = w.heap.size + 2 := by simp
  have bA0 : Hid (Box ((w.alloc (.cells #[.string (strT d), .slice a0 (kidsOf d).length cap0] 26)).alloc (.cells #[.string ⟨#[]⟩, .slice none 0 0] 26)) w.heap.size [.string (strT d), .slice a0 (kidsOf d).length cap0] 26) := (Box.new w [.string (strT d), .slice a0 (kidsOf d).length cap0] 26).alloc _
  have bR0 : Hid (Box ((w.alloc (.cells #[.string (strT d), .slice a0 (kidsOf d).length cap0] 26)).alloc (.cells #[.string ⟨#[]⟩, .slice none 0 0] 26)) (w.heap.size + 1) [.string ⟨#[]⟩, .slice none 0 0] 26) := by
    have q := Box.new (w.alloc (.cells #[.string (strT d), .slice a0 (kidsOf d).length cap0] 26)) [.string ⟨#[]⟩, .slice none 0 0] 26
    simpa only [World.size_alloc, Hid] using q
  go_enter Try.func36, Try.ntmps36
  go_wp2_with fail
  refine (listCopyT_any (w0 := w) (RowAt.mono hrow.out hb2.out.size (Nat.le_refl _) (fun b _ h2 => hb2.out.block b h2) (fun _ _ _ r => r)) hfew).mono ?_
  rintro e w3 ⟨⟨v, rfl, hres⟩, hb3⟩
  rw [hz2] at hb3
  have hz3 : w.heap.size + 2 ≤ w3.heap.size := by have := hb3.size; rw [hz2] at this; exact this
  have bA3 : Hid (Box w3 w.heap.size [.string (strT d), .slice a0 (kidsOf d).length cap0] 26) := bA0.out.below hb3 (by omega)
  have bR3 : Hid (Box w3 (w.heap.size + 1) [.string ⟨#[]⟩, .slice none 0 0] 26) := bR0.out.below hb3 (by omega)
  have hB3 : Hid (Below w.heap.size w w3) := hb2.out.trans (hb3.mono (by omega))
  have hres' : Hid (LcRes w ((w.alloc (.cells #[.string (strT d), .slice a0 (kidsOf d).length cap0] 26)).alloc (.cells #[.string ⟨#[]⟩, .slice none 0 0] 26)) w3 lo n (kidsOf d) v) := hres
  have hc3 := bA3.out.cell 1 rfl
  have hf3 := bA3.out.unfrozen
  clear hres hb3 bA0 bR0
  rcases hres'.out with ⟨h0, rfl⟩ | ⟨hpos, g, cap, css, rfl, hcap, hown, hcl, hc2, hkid⟩
  · have bA : Hid (Box (w3.setCell ⟨w.heap.size, 1, none⟩ (.slice none 0 0)) w.heap.size [.string (strT d), .slice none 0 0] 26) := bA3.out.set (i := 1) _
    have bR : Hid (Box (w3.setCell ⟨w.heap.size, 1, none⟩ (.slice none 0 0)) (w.heap.size + 1) [.string ⟨#[]⟩, .slice none 0 0] 26) := bR3.out.other (by omega) _
    have hB4 : Hid (Below w.heap.size w (w3.setCell ⟨w.heap.size, 1, none⟩ (.slice none 0 0))) := hB3.out.setCell (by exact Nat.le_refl _) _
    have h0' : Hid ((kidsOf d).length = 0) := h0
    have cA1 := bA.out.cell 1 rfl
    clear h0
    go_wp2_with fail
    generalize (w3.setCell ⟨w.heap.size, 1, none⟩ (.slice none 0 0)) = W4 at bA bR hB4
    go_loopw [12] (fun i wr => i = .int .i64 0 ∧ wr = W4) (fun _ _ => 0)
    case atStart => exact ⟨rfl, rfl⟩
    case round =>
      obtain ⟨rfl, rfl⟩ := hrel
      have cT0 := bA.out.cell 0 rfl
      have cT1 := bA.out.cell 1 rfl
      have cR0 := bR.out.cell 0 rfl
      have cR1 := bR.out.cell 1 rfl
      have fR := bR.out.unfrozen
      go_wp2_with fail
      have r1 := ((bR.out.set (i := 0) (.string (strT d))).set (i := 1) (.slice none 0 0)).cell 1 rfl
      have r2 := ((bR.out.set (i := 0) (.string (strT d))).set (i := 1) (.slice none 0 0)).cell 0 rfl
      refine bodyPost_ret (v := .agg #[.string (strT d), .slice none 0 0]) (by simp [results, Try.results36, go_sem, r1, r2]) rfl ?_
      refine ⟨⟨[.string (strT d), .slice none 0 0], [], rfl, ⟨.slice none 0 0, [], rfl, ?_, hsz'.out, rfl⟩, List.nodup_nil, by simp⟩, (hB4.out.setCell (p := ⟨w.heap.size + 1, 0, none⟩) (by simp) _).setCell (p := ⟨w.heap.size + 1, 1, none⟩) (by simp) _⟩
      exact ⟨none, 0, by rw [h0'.out], by rw [h0'.out]; exact ⟨Nat.zero_le _, Nat.zero_le _⟩, Or.inl ⟨h0'.out, rfl⟩⟩
  · have hown2 : w3.ownsRow (w.heap.size + 2) 26 2 (.slice (some ⟨g, 0, none⟩) (kidsOf d).length cap) (kidsOf d).length css.flatten := by rw [← hz2]; exact hown
    have bA : Hid (Box (w3.setCell ⟨w.heap.size, 1, none⟩ (.slice (some ⟨g, 0, none⟩) (kidsOf d).length cap)) w.heap.size [.string (strT d), .slice (some ⟨g, 0, none⟩) (kidsOf d).length cap] 26) := bA3.out.set (i := 1) _
    have bR : Hid (Box (w3.setCell ⟨w.heap.size, 1, none⟩ (.slice (some ⟨g, 0, none⟩) (kidsOf d).length cap)) (w.heap.size + 1) [.string ⟨#[]⟩, .slice none 0 0] 26) := bR3.out.other (by omega) _
    have hB4 : Hid (Below w.heap.size w (w3.setCell ⟨w.heap.size, 1, none⟩ (.slice (some ⟨g, 0, none⟩) (kidsOf d).length cap))) := hB3.out.setCell (by exact Nat.le_refl _) _
    have hfil0 := FilledC.start (R := TreeO n) (O := KidC w lo n) (Below.refl (w.heap.size + 2) w3) hown2 hcl hc2 hkid
    have hg : w.heap.size + 2 ≤ g := hfil0.2
    have hfil : Hid (FilledC 26 2 (TreeO n) (KidC w lo n) (w.heap.size + 2) (w3.setCell ⟨w.heap.size, 1, none⟩ (.slice (some ⟨g, 0, none⟩) (kidsOf d).length cap)) (w3.setCell ⟨w.heap.size, 1, none⟩ (.slice (some ⟨g, 0, none⟩) (kidsOf d).length cap)) (kidsOf d) g 0 []) := by
      obtain ⟨_, q2, q3, q4, q5, C, q6, q7, q8, q9⟩ := hfil0.1
      exact ⟨Below.refl _ _, by rw [set_size]; exact q2, q3, q4, by simp, C, (set_other (by omega) _).trans q6, q7, fun j' _ h => absurd h (by simp), q9⟩
    clear hown hown2 hcl hc2 hkid hfil0 hres'
    have cA1 := bA.out.cell 1 rfl
    go_wp2_with fail
    clear cA1 hc3 hf3 bA3 bR3 hB3
    generalize (w3.setCell ⟨w.heap.size, 1, none⟩ (.slice (some ⟨g, 0, none⟩) (kidsOf d).length cap)) = W4 at bA bR hB4 hfil
    go_loopw [12] (fun i wr => ∃ (j : Nat) (bss : List (List Nat)), j ≤ (kidsOf d).length ∧ i = .int .i64 j ∧ Hid (FilledC 26 2 (TreeO n) (KidC w lo n) (w.heap.size + 2) W4 wr (kidsOf d) g j bss)) (fun i _ => (kidsOf d).length - (intOf i).toNat)
    case atStart => exact ⟨0, [], by omega, rfl, hfil⟩
    case round =>
      obtain ⟨j, bss, hj, rfl, hf⟩ := hrel
      have hbr : Below (w.heap.size + 2) W4 wr := hf.out.1
      have bAr : Hid (Box wr w.heap.size [.string (strT d), .slice (some ⟨g, 0, none⟩) (kidsOf d).length cap] 26) := bA.out.below hbr (by omega)
      have bRr : Hid (Box wr (w.heap.size + 1) [.string ⟨#[]⟩, .slice none 0 0] 26) := bR.out.below hbr (by omega)
      have hbw : Below w.heap.size w wr := hB4.out.trans (hbr.mono (by omega))
      have hzr : w.heap.size + 2 ≤ wr.heap.size := by have := bRr.out.lt; omega
      by_cases hlt : j < (kidsOf d).length
      · obtain ⟨cs, hcsl, lie, t', k', rfl, htk⟩ := hf.out.at hlt
        have hRK0 : Hid (RightT (kidsOf d)[j]) := by show RightT _; have := hR'.out.nth hlt; simpa [nth, List.getD, List.getElem?_eq_getElem hlt] using this
        obtain ⟨rfl, _⟩ := htk.tag
        obtain ⟨_, a2, cap2, rfl⟩ := htk.form
        have z0 := lie 0 (by simp)
        have z1 := lie 1 (by simp)
        simp only [List.getElem?_cons_zero, List.getElem?_cons_succ, Nat.add_zero] at z0 z1
        have htK0 : Hid (TreeAt w lo n (.string (strT (kidsOf d)[j])) (.slice a2 (kidsOf (kidsOf d)[j]).length cap2) (kidsOf d)[j]) := htk
        generalize hY : (kidsOf d)[j] = Y at hRK0 htK0 z0 z1
        have hY' : Hid ((kidsOf d)[j] = Y) := hY
        have hlt' : (j : Int) < ((kidsOf d).length : Int) := by omega
        have hj0 : (0 : Int) ≤ (j : Int) := by omega
        have hglt : g < wr.heap.size := hf.out.2.1
        clear lie hcsl htk hY
        have cA1 := bAr.out.cell 1 rfl
        go_wp2_with fail
        have hbV : Hid (Below wr.heap.size wr (wr.alloc (.cells #[.string (strT Y), .slice a2 (kidsOf Y).length cap2] 26))) := (Below.refl _ _).alloc (Nat.le_refl _) _
        have hfV := hf.out.below (TreeO_stays n) (by omega) hbV.out
        have bAV := bAr.out.alloc (.cells #[.string (strT Y), .slice a2 (kidsOf Y).length cap2] 26)
        have bYV : Box (wr.alloc (.cells #[.string (strT Y), .slice a2 (kidsOf Y).length cap2] 26)) wr.heap.size [.string (strT Y), .slice a2 (kidsOf Y).length cap2] 26 := Box.new wr _ _
        have hzV : (wr.alloc (.cells #[.string (strT Y), .slice a2 (kidsOf Y).length cap2] 26)).heap.size = wr.heap.size + 1 := by simp
        have hBV : Below w.heap.size w (wr.alloc (.cells #[.string (strT Y), .slice a2 (kidsOf Y).length cap2] 26)) := hbw.alloc hbw.size _
        have hfV' : Hid (FilledC 26 2 (TreeO n) (KidC w lo n) (w.heap.size + 2) W4 (wr.alloc (.cells #[.string (strT Y), .slice a2 (kidsOf Y).length cap2] 26)) (kidsOf d) g j bss) := hfV
        have hBV' : Hid (Below w.heap.size w (wr.alloc (.cells #[.string (strT Y), .slice a2 (kidsOf Y).length cap2] 26))) := hBV
        generalize (wr.alloc (.cells #[.string (strT Y), .slice a2 (kidsOf Y).length cap2] 26)) = V at bAV bYV hzV hfV' hBV'
        have y0 := bYV.cell 0 rfl
        have y1 := bYV.cell 1 rfl
        have x1 := bAV.cell 1 rfl
        have bAV' : Hid (Box V w.heap.size [.string (strT d), .slice (some ⟨g, 0, none⟩) (kidsOf d).length cap] 26) := bAV
        have bYV' : Hid (Box V wr.heap.size [.string (strT Y), .slice a2 (kidsOf Y).length cap2] 26) := bYV
        have hzV' : Hid (V.heap.size = wr.heap.size + 1) := hzV
        have hlA : w.heap.size < V.heap.size := bAV.lt
        have hlY : wr.heap.size < V.heap.size := bYV.lt
        have hne1 : ¬ w.heap.size = g := by omega
        have hne2 : ¬ wr.heap.size = g := by omega
        have hne3 : ¬ g = w.heap.size := by omega
        have hne4 : ¬ g = wr.heap.size := by omega
        clear hfV hBV bAV bYV hzV z0 z1 cA1 hbV
        go_region_held3 (fun w' => w'.cell? ⟨w.heap.size, 1, none⟩ = some (.slice (some ⟨g, 0, none⟩) (kidsOf d).length cap) ∧ w'.cell? ⟨wr.heap.size, 0, none⟩ = some (.string (strT Y)) ∧ w'.cell? ⟨wr.heap.size, 1, none⟩ = some (.slice a2 (kidsOf Y).length cap2)) (go_keep)
          (first | (go_at_call 36; refine (ih.out _ lo _ _ Y (by exact TreeAt.below htK0.out (Below.drew hBV'.out)) hRK0.out).mono ?_; rintro e w5 ⟨⟨cs5, fs5, rfl, ho5, nd5, lo5⟩, hb5⟩; have hb5' : Hid (Below V.heap.size V w5) := undrew hb5; have lo5' : Hid (∀ b ∈ fs5, V.heap.size ≤ b) := lo5; have ho5' : Hid (TreeO n w5 cs5 Y fs5) := ho5; have hi5 : Hid (∀ b ∈ fs5, b < w5.heap.size) := TreeO_lt _ _ _ _ _ ho5; obtain ⟨kk, rfl, hs5, _⟩ := ho5.opened; obtain ⟨ak, ck, rfl⟩ := hs5.form; have bA5 : Hid (Box w5 w.heap.size _ _) := Box.below bAV'.out hb5'.out hlA; have bY5 : Hid (Box w5 wr.heap.size _ _) := Box.below bYV'.out hb5'.out hlY; have k1 := bA5.out.cell 1 rfl; have k2 := bY5.out.cell 0 rfl; have k3 := bY5.out.cell 1 rfl; obtain ⟨hv5, hf5⟩ := hfV'.out.facts hlt hb5'.out; obtain ⟨v0, q0⟩ := hv5 0 (by omega); obtain ⟨v1, q1⟩ := hv5 1 (by omega); have f0 := hf5 (j * 2); have f1 := hf5 (j * 2 + 1); simp only [Nat.add_zero] at q0; clear ho5 lo5 hs5 hv5 hf5 hb5))
        go_wp2_with fail
        go_roundw
        case rel =>
          refine ⟨j + 1, bss ++ [fs5], by omega, by go_num, ?_⟩
          have hst := FilledC.step (TreeO_stays n) hfV'.out hlt (by omega) hb5'.out rfl (by rw [hY'.out]; exact ho5'.out) lo5'.out hi5.out nd5
          simp only [putCells] at hst
          exact hst
        case measure => simp [intOf]; omega
      · obtain rfl : j = (kidsOf d).length := by omega
        have bA := bAr
        have bR := bRr
        have cT0 := bA.out.cell 0 rfl
        have cT1 := bA.out.cell 1 rfl
        have cR0 := bR.out.cell 0 rfl
        have cR1 := bR.out.cell 1 rfl
        have fR := bR.out.unfrozen
        go_wp2_with fail
        have r1 := ((bR.out.set (i := 0) (.string (strT d))).set (i := 1) (.slice (some ⟨g, 0, none⟩) (kidsOf d).length cap)).cell 1 rfl
        have r2 := ((bR.out.set (i := 0) (.string (strT d))).set (i := 1) (.slice (some ⟨g, 0, none⟩) (kidsOf d).length cap)).cell 0 rfl
        refine bodyPost_ret (v := .agg #[.string (strT d), .slice (some ⟨g, 0, none⟩) (kidsOf d).length cap]) (by simp [results, Try.results36, go_sem, r1, r2]) rfl ?_
        obtain ⟨hso, hlo⟩ := hf.out.done (by omega) (by unfold maxLen; omega) hcap
        refine ⟨⟨[.string (strT d), .slice (some ⟨g, 0, none⟩) (kidsOf d).length cap], _, rfl, ⟨.slice (some ⟨g, 0, none⟩) (kidsOf d).length cap, _, rfl, ?_, hsz'.out, rfl⟩, hso.nodup, fun b q => by have := hlo b q; omega⟩, (hbw.setCell (p := ⟨w.heap.size + 1, 0, none⟩) (by simp) _).setCell (p := ⟨w.heap.size + 1, 1, none⟩) (by simp) _⟩
        exact SeqOwn.put (TreeO_stays n) hso (g := w.heap.size + 1) (o := 0) (vs := [.string (strT d), .slice (some ⟨g, 0, none⟩) (kidsOf d).length cap]) (fun b q => by have := hlo b q; omega)
theorem cpI_all : ∀ n, CpI n := by
  intro n
  induction n with
  | zero => exact fun _ _ _ _ _ h _ => h.elim
  | succ n ih => exact cpI_step n ih
end Go.Proofs.Ytndffcogddefiaa
