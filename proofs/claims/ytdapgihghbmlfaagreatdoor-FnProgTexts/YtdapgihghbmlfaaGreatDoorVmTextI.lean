/- ProgText of the program, walked. -/
import Derived.Test.YtdapgihghbmlfaaGreatDoorVmTextW
import Derived.Test.YtdapgihghbmlfaaGreatDoorVmDepI
import Derived.Test.YtdapgihghbmlfaaGreatDoorShelfJoin
import Derived.Laws.AppendOwn
import Derived.WalkKit
import Derived.OwnWalk
import Derived.MapKept
namespace Go.Proofs.YtdapgihghbmlfaaGreatDoor
open Go.RowKit
theorem infoStx : ((Tryz.prog.info? 9).map fun i => (i.zero, i.bytes, i.size)) = some (some (.string ⟨#[]⟩), 16, 1) := by kernel_rfl
theorem stx_forms {w : World} {base e size n : Nat} {v : Value} {xs : List Value} (h : w.ownsRow base e size v n xs) : ∃ a cap, v = .slice a n cap := by
  rcases h.2 with ⟨rfl, rfl⟩ | ⟨g, cap, cur, rfl, _⟩
  · exact ⟨_, _, rfl⟩
  · exact ⟨_, _, rfl⟩
theorem stx_block {w : World} {base e size n : Nat} {v : Value} {xs : List Value} (h : w.ownsRow base e size v n xs) : ∀ k, v.ownBlock = some k → base ≤ k := by
  intro k hk
  rcases h.2 with ⟨rfl, _⟩ | ⟨g, cap, cur, rfl, hg, _⟩
  · cases hk
  · simp [Value.ownBlock] at hk; omega
theorem stx_below {w w' : World} {base e size n : Nat} {v : Value} {xs : List Value} (h : w.ownsRow base e size v n xs) (hb : Below w.heap.size w w') : w'.ownsRow base e size v n xs := by
  refine ⟨h.1, ?_⟩
  rcases h.2 with q | ⟨g, cap, cur, hv, hg, hh, r⟩
  · exact Or.inl q
  · have hlt : g < w.heap.size := by
      rcases Nat.lt_or_ge g w.heap.size with h | h
      · exact h
      · rw [Array.getElem?_eq_none h] at hh; cases hh
    exact Or.inr ⟨g, cap, cur, hv, hg, (hb.block g hlt).trans hh, r⟩
/-- a row of texts, as strings.Join asks it -/
theorem stx_row {w : World} {base n cap : Nat} {a : Option Addr} {xs : List ByteArray} (h : w.ownsRow base 9 1 (.slice a n cap) n (xs.map Value.string)) (h0 : 0 < n) : ∃ g, a = some ⟨g, 0, none⟩ ∧ g < w.heap.size ∧ n ≤ cap ∧ xs.length = n ∧ ∀ (j : Nat) x, xs[j]? = some x → w.cell? ⟨g, 0 + j, none⟩ = some (.string x) := by
  have hl : xs.length = n := by have := h.1; simpa using this
  rcases h.2 with ⟨e1, e2⟩ | ⟨g, c, cur, e1, _, hh, h1, _, h3, h4⟩
  · omega
  · injection e1 with e1 _ e3
    have hlt : g < w.heap.size := by
      rcases Nat.lt_or_ge g w.heap.size with h | h
      · exact h
      · rw [Array.getElem?_eq_none h] at hh; cases hh
    refine ⟨g, e1, hlt, by omega, hl, fun j x hx => ?_⟩
    have hj : j < xs.length := by
      rcases Nat.lt_or_ge j xs.length with q | q
      · exact q
      · rw [List.getElem?_eq_none q] at hx; cases hx
    rw [Nat.zero_add, blk_cell hh]
    have : (cur.toList.take (n * 1))[j]? = some (.string x) := by rw [h4, List.getElem?_map, hx]; rfl
    rw [List.getElem?_take_of_lt (by omega)] at this
    simpa using this
set_option maxRecDepth 100000 in
set_option maxHeartbeats 2000000 in
theorem implProgText_any {w : World} {lo : Nat} {k : Value} {l : List InstrD} (hk : SeqAt 3 InstrAt w lo k l) (hf : Forms w) (hp : Pows w) :
    Calls Tryz.prog 6 #[k] w fun e w' => (∃ b ys, e = .returned (.string (progT l b)) ∧ Ans l b ys) ∧ Below w.heap.size w w' := by
  have hf' : Hid (∀ w', Below w.heap.size w w' → Forms w') := fun w' h => hf.below h hf.lt
  have hp' : Hid (∀ w', Below w.heap.size w w' → Pows w') := fun w' h => hp.below h hp.lt
  have hff : Hid (Forms w) := hf
  clear hf hp
  have hk' : Hid (SeqAt 3 InstrAt w lo k l) := hk
  obtain ⟨iI, hiI, heI⟩ := Option.map_eq_some_iff.1 infoStx
  simp only [Prod.mk.injEq] at heI
  have hI : Hid (Tryz.prog.info? 9 = some iI) := hiI
  have hE : Hid (iI.zero = some (.string ⟨#[]⟩) ∧ iI.bytes = 16 ∧ iI.size = 1) := heI
  clear hiI heI
  obtain ⟨a, cap, rfl⟩ := hk.form
  clear hk
  go_enter Tryz.func6, Tryz.ntmps6
  go_wp2_with fail
  refine (implProgOk_any hk'.out hff.out).mono ?_
  rintro e w1 ⟨⟨ok, ys, rfl, hans⟩, hb1⟩
  have hans' : Hid (Ans l ok ys) := hans
  have hB1 : Hid (Below w.heap.size w w1) := hb1
  have hk1 : Hid (SeqAt 3 InstrAt w1 lo (.slice a l.length cap) l) := hk'.out.below InstrAt_stays hb1
  clear hb1 hk'
  cases ok
  · clear hans
    go_wp2_with fail
    go_ret
    exact ⟨⟨false, ys, rfl, hans'.out⟩, hB1.out⟩
  obtain ⟨hl1, hl5, hst⟩ := ans_right hans
  have hst' : Hid (allB l = true) := hst
  clear hst hans hff
  go_wp2_with fail
  go_loopw [3, 11] (fun v i wr => ∃ (j : Nat), j ≤ l.length ∧ i = .int .i64 j ∧ Hid (wr.ownsRow w1.heap.size 9 1 v j (((l.take j).map instrT).map Value.string)) ∧ Hid (∃ a cap, v = .slice a j cap) ∧ Hid (Below w1.heap.size w1 wr)) (fun _ i _ => l.length - (intOf i).toNat)
  case atStart => exact ⟨0, by omega, rfl, World.ownsRow_nil _ _ _ _, ⟨_, _, rfl⟩, Below.refl _ _⟩
  case round =>
    obtain ⟨j, hj, rfl, hown, hform, hb⟩ := hrel
    obtain ⟨a3, cap3, rfl⟩ := hform.out
    clear hform
    have hz := hb.out.size
    by_cases hlt : j < l.length
    · obtain ⟨a', cap', e, hm, hx⟩ := (hk1.out.below InstrAt_stays hb.out)
      injection e with e1 _ e3
      subst e1 e3
      obtain ⟨b, off, rfl, hlo, hbw, hc⟩ := hx (by omega)
      obtain ⟨cs, hcl, lie, rfl, _⟩ := hc j hlt
      have y0 := lie 0 (by simp)
      have y1 := lie 1 (by simp)
      have y2 := lie 2 (by simp)
      simp only [List.getElem?_cons_zero, List.getElem?_cons_succ, Nat.add_zero] at y0 y1 y2
      have hib : Hid (instrB l[j] = true) := allB_get hst'.out j hlt
      have hstep : Hid (((l.take (j + 1)).map instrT).map Value.string = ((l.take j).map instrT).map Value.string ++ [.string (instrT l[j])]) := by show _ = _; rw [List.take_succ_eq_append_getElem hlt, List.map_append, List.map_append]; rfl
      obtain ⟨L, hL⟩ : ∃ L, ((l.take j).map instrT).map Value.string = L := ⟨_, rfl⟩
      have hownL : Hid (wr.ownsRow w1.heap.size 9 1 (.slice a3 j cap3) j L) := by rw [← hL]; exact hown
      have hL' : Hid _ := hL
      generalize l[j] = X at y0 y1 y2 hib hstep
      clear lie hcl hc hx hL hown
      have hlt' : (j : Int) < (l.length : Int) := by omega
      have hj0 : (0 : Int) ≤ (j : Int) := by omega
      go_wp2_with fail
      refine (instrText_any hib.out (hf'.out _ (hB1.out.trans ((hb.out.alloc hz _).mono hB1.out.size))) (hp'.out _ (hB1.out.trans ((hb.out.alloc hz _).mono hB1.out.size)))).mono ?_
      rintro e w2 ⟨rfl, hb2⟩
      have hbA : Hid (Below wr.heap.size wr w2) := ((Below.refl _ _).alloc (Nat.le_refl _) _).trans (hb2.mono (by simp))
      have hown2 : Hid (w2.ownsRow w1.heap.size 9 1 (.slice a3 j cap3) j L) := stx_below hownL.out hbA.out
      have hB2 : Hid (Below w1.heap.size w1 w2) := hb.out.trans (hbA.out.mono hz)
      have hz2 := hB2.out.size
      clear hb2 hbA y0 y1 y2 hownL
      generalize instrT X = sx at hstep
      go_wp2_with (at_builtin; refine wpList_append_own _ rfl _ _ 32 rfl w1.heap.size 9 iI (.string ⟨#[]⟩) 1 16 Tryz.underlying32 hI.out hE.out.1 hE.out.2.2 hE.out.2.1 rfl (by decide) _ j L rfl (hown2.out.alloc _) ⟨w2.heap.size, 0, none⟩ 1 1 [.string sx] rfl rfl (by intro q u hq; match q, hq with | 0, hq => simp at hq; subst hq; simp [Addr.add]) (by simp [Value.oneCell']) (by unfold maxLen; omega) (by omega) (by simp; omega) ?_)
      intro v' w3 hown' hgrow _
      have hb3 : Hid (Below w1.heap.size w1 w3) := (hB2.out.alloc hz2 _).grown hgrow (by simp; omega) (stx_block hown2.out)
      obtain ⟨av', capv', rfl⟩ := stx_forms hown'
      have hown1 : Hid (w3.ownsRow w1.heap.size 9 1 (.slice av' (j + 1) capv') (j + 1) (L ++ [.string sx])) := hown'
      clear hown' hgrow
      go_wp2_with fail
      go_roundw
      case rel => exact ⟨j + 1, by omega, by go_num, by rw [hstep.out, hL'.out]; exact hown1.out, ⟨_, _, rfl⟩, hb3⟩
      case measure => simp [intOf]; omega
    obtain rfl : j = l.length := by omega
    have hown2 : wr.ownsRow w1.heap.size 9 1 (.slice a3 l.length cap3) l.length ((l.map instrT).map Value.string) := by have q := hown.out; rw [List.take_length] at q; exact q
    obtain ⟨g, rfl, hg1, hg2, hg3, hg4⟩ := stx_row hown2 (by omega)
    have hjl := joinT_small hst'.out l.length (Nat.le_refl _)
    rw [List.take_length] at hjl
    have hcall := join_any g 0 cap3 (l.map instrT) ⟨#[59, 32]⟩ wr hg4 hg1 (by omega) (by omega) (by show (joinT l).length ≤ _; omega)
    rw [hg3] at hcall
    have hcall' : Hid (Calls Tryz.prog 15 #[.slice (some ⟨g, 0, none⟩) l.length cap3, .string ⟨#[59, 32]⟩] wr fun e w' => e = .returned (.string ⟨(joinT l).toArray⟩) ∧ Below wr.heap.size wr w') := hcall
    clear hcall hg4 hown hown2 hjl
    go_wp2_with fail
    refine hcall'.out.mono ?_
    rintro e w4 ⟨rfl, hb4⟩
    go_wp2_with fail
    go_ret
    exact ⟨⟨true, ys, rfl, hans'.out⟩, hB1.out.trans ((hb.out.trans (hb4.mono hz)).mono hB1.out.size)⟩
end Go.Proofs.YtdapgihghbmlfaaGreatDoor
