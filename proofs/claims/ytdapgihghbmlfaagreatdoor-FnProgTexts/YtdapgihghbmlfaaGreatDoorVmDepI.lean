/- What DepthsOf and ProgOk of the program return. -/
import Derived.Test.YtdapgihghbmlfaaGreatDoorVmCome
import Derived.Laws.Cover1
namespace Go.Proofs.YtdapgihghbmlfaaGreatDoor
open Go.RowKit
theorem closed_range {p : List InstrD} {L : List Int} (h : Closed p L) (i : Nat) : -1 ≤ labAt L i ∧ labAt L i ≤ 8 := by
  by_cases e : labAt L i = -1
  · omega
  · obtain ⟨x, _, h1, h2, h3, _⟩ := h.2.2 i e
    have := takesT_range x.vKind
    have := givesT_range x.vKind
    unfold aft at h3
    omega
theorem ans_range {p : List InstrD} {b : Bool} {ys : List Int} (h : Ans p b ys) : ys.length ≤ 20 ∧ ∀ y ∈ ys, InI y := by
  rcases h with ⟨hr, h⟩ | ⟨_, _, rfl⟩
  · rcases h with ⟨_, h, _⟩ | ⟨_, rfl, _⟩
    · refine ⟨?_, fun y hy => ?_⟩
      · rw [h.1]
        simp only [rightB, Bool.and_eq_true, decide_eq_true_eq] at hr
        exact hr.1.2
      · obtain ⟨i, hi, rfl⟩ := List.getElem_of_mem hy
        have := closed_range h i
        rw [lab_get hi]
        unfold InI
        omega
    · exact ⟨by simp, by simp⟩
  · exact ⟨by simp, by simp⟩
/-- where the answer lies -/
def DepRow (w : World) (base : Nat) (k : Value) (ys : List Int) : Prop := (ys = [] ∧ k = .slice none 0 0) ∨ ∃ g cap, k = .slice (some ⟨g, 0, none⟩) ys.length cap ∧ base ≤ g ∧ ys.length ≤ cap ∧ DRow w g ys
theorem DepRow.own {w : World} {base : Nat} {k : Value} {ys : List Int} (h : DepRow w base k ys) (hl : ys.length ≤ 20) (hi : ∀ y ∈ ys, InI y) : ∃ fs, SeqOwn 1 IntOwn w k ys fs ∧ ∀ b ∈ fs, base ≤ b := by
  rcases h with ⟨rfl, rfl⟩ | ⟨g, cap, rfl, hb, hc, cur, h1, h2⟩
  · exact ⟨[], ⟨none, 0, rfl, ⟨by simp, by simp⟩, Or.inl ⟨rfl, rfl⟩⟩, by simp⟩
  · refine ⟨[g], ⟨_, _, rfl, ⟨by unfold maxLen; omega, hc⟩, Or.inr ⟨g, 0, rfl, cur, 2, ys.map fun _ => [], h1, ?_, by simp, by simp, by simp, fun i q1 q2 => ⟨[.int .i64 ys[i]], rfl, fun m hm => ?_, rfl, hi _ (List.getElem_mem q1), by simp⟩⟩⟩, by simpa using hb⟩
    · rcases Nat.eq_zero_or_pos ys.length with e | e
      · omega
      · have := h2 (ys.length - 1) (by omega)
        have := (Array.getElem?_eq_some_iff.1 this).1
        omega
    · obtain rfl : m = 0 := by omega
      simpa using h2 i q1
/-- what DepthsOf answers, and where -/
def DepR (p : List InstrD) (base : Nat) (e : Ending) (w' : World) : Prop := ∃ b ys k, e = .returned (.tuple #[k, .bool b]) ∧ Ans p b ys ∧ DepRow w' base k ys
theorem DepR.no {p : List InstrD} {base : Nat} {w' : World} (h : Ans p false []) : DepR p base (.returned (.tuple #[.slice none 0 0, .bool false])) w' := ⟨false, [], _, rfl, h, Or.inl ⟨rfl, rfl⟩⟩
theorem DepR.yes {p : List InstrD} {base g cap : Nat} {w' : World} {ys : List Int} (h : Ans p true ys) (hb : base ≤ g) (hl : ys.length = p.length) (hc : p.length ≤ cap) (hr : DRow w' g ys) : DepR p base (.returned (.tuple #[.slice (some ⟨g, 0, none⟩) p.length cap, .bool true])) w' := ⟨true, ys, _, rfl, h, Or.inr ⟨g, cap, by rw [hl], hb, by omega, hr⟩⟩
theorem ones_row {w : World} {g n : Nat} (h : Ones w g n n) : DRow w g (List.replicate n (-1)) := by
  obtain ⟨cur, h1, h2, h3⟩ := h
  refine ⟨cur, h1, fun i hi => ?_⟩
  simp only [List.length_replicate] at hi
  have : (cur.toList.take n)[i]? = some (.int .i64 (-1)) := by rw [h3, List.getElem?_replicate, if_pos hi]
  rw [List.getElem?_take, if_pos hi] at this
  simpa using this
set_option maxHeartbeats 4000000 in
theorem implDepths_any {w : World} {lo : Nat} {kp : Value} {p : List InstrD} (hp : SeqAt 3 InstrAt w lo kp p) (hf : Forms w) :
    Calls Tryz.prog 22 #[kp] w fun e w' => DepR p w.heap.size e w' ∧ Below w.heap.size w w' := by
  have hp' : Hid (SeqAt 3 InstrAt w lo kp p) := hp
  have hf' : Hid (Forms w) := hf
  obtain ⟨a, cap, rfl, hm, hx⟩ := hp
  unfold maxLen at hm
  have hx' : Hid (0 < p.length → ∃ b off, a = some ⟨b, off, none⟩ ∧ lo ≤ b ∧ b < w.heap.size ∧ ∀ i, (h : i < p.length) → ∃ cs, cs.length = 3 ∧ Lie w b (off + i * 3) cs ∧ InstrAt w lo cs p[i]) := hx
  clear hx hf
  by_cases h1 : p.length < 1
  · have H : Hid (Ans p false []) := Or.inr ⟨right_short h1, rfl, rfl⟩
    have h1' : (p.length : Int) < 1 := by omega
    go_enter Tryz.func22, Tryz.ntmps22
    go_wp2_with fail
    go_ret2
    exact ⟨DepR.no H.out, Below.refl _ _⟩
  by_cases h2 : 20 < p.length
  · have H : Hid (Ans p false []) := Or.inr ⟨right_long h2, rfl, rfl⟩
    have h1' : ¬ (p.length : Int) < 1 := by omega
    have h2' : (20 : Int) < (p.length : Int) := by omega
    go_enter Tryz.func22, Tryz.ntmps22
    go_wp2_with fail
    go_ret2
    exact ⟨DepR.no H.out, Below.refl _ _⟩
  have h1' : ¬ (p.length : Int) < 1 := by omega
  have h2' : ¬ (20 : Int) < (p.length : Int) := by omega
  obtain ⟨b, off, rfl, hlo, hbw, hc⟩ := hx'.out (by omega)
  have hc' : Hid (∀ i, (h : i < p.length) → ∃ cs, cs.length = 3 ∧ Lie w b (off + i * 3) cs ∧ InstrAt w lo cs p[i]) := hc
  clear hc hx'
  go_enter Tryz.func22, Tryz.ntmps22
  go_wp2_with fail
  go_loopw [17] (fun i wr => ∃ j : Nat, j ≤ p.length ∧ i = .int .i64 j ∧ Hid (Below w.heap.size w wr) ∧ Hid (allB (p.take j) = true)) (fun i _ => p.length - (intOf i).toNat)
  case atStart => exact ⟨0, Nat.zero_le _, rfl, Below.refl _ _, rfl⟩
  case round =>
    obtain ⟨j, hj, rfl, hb, hall⟩ := hrel
    by_cases hlt : j < p.length
    · obtain ⟨cs, hcl, lie, hr⟩ := hc'.out j hlt
      have lie1 := Lie.keep (lo := lo) (lo' := lo) lie (.of_below hb.out) hlo hbw
      have HS : Hid (allB (p.take (j + 1)) = instrB p[j]) := by show _ = _; rw [allB_take p j hlt, hall.out, Bool.true_and]
      generalize p[j] = X at hr HS
      have hr' : Hid (InstrAt w lo cs X) := hr
      obtain ⟨rfl, _⟩ := hr
      have y0 := lie1 0 (by simp)
      have y1 := lie1 1 (by simp)
      have y2 := lie1 2 (by simp)
      simp only [List.getElem?_cons_zero, List.getElem?_cons_succ, Nat.add_zero] at y0 y1 y2
      have hB2 : Hid (∀ ob, Below w.heap.size w (wr.alloc ob)) := fun ob => hb.out.alloc hb.out.size ob
      have hlt' : (j : Int) < (p.length : Int) := by omega
      clear lie lie1 hcl
      cases hi : instrB X
      · rw [hi] at HS
        have hi' : Hid (instrB X = false) := hi
        have HA : Hid (Ans p false []) := Or.inr ⟨right_all (allB_take_false p (j + 1) HS.out), rfl, rfl⟩
        clear hi
        go_wp2_with (go_at_call 41; refine (implInstrOk_any (InstrAt_stays _ _ lo lo _ _ (.of_below (hB2.out _)) hr'.out) (Forms.below hf'.out (hB2.out _) (Forms.lt hf'.out))).mono ?_; rintro e w3 ⟨rfl, hb3⟩; rw [hi'.out])
        go_ret2
        exact ⟨DepR.no HA.out, (hB2.out _).trans (hb3.mono (hB2.out _).size)⟩
      · rw [hi] at HS
        have hi' : Hid (instrB X = true) := hi
        clear hi
        go_wp2_with (go_at_call 41; refine (implInstrOk_any (InstrAt_stays _ _ lo lo _ _ (.of_below (hB2.out _)) hr'.out) (Forms.below hf'.out (hB2.out _) (Forms.lt hf'.out))).mono ?_; rintro e w3 ⟨rfl, hb3⟩; rw [hi'.out])
        go_roundw
        case rel => exact ⟨j + 1, by omega, by go_num, (hB2.out _).trans (hb3.mono (hB2.out _).size), HS⟩
        case measure => simp [intOf]; omega
    · obtain rfl : j = p.length := by omega
      have hAll : Hid (allB p = true) := by show _ = _; have := hall.out; rwa [List.take_of_length_le (by omega)] at this
      have hright : Hid (rightB p = true) := right_yes (by omega) (by omega) hAll.out
      have hb1 : Hid (Below w.heap.size w (wr.alloc (.cells #[.int .i64 (-1)] 2))) := hb.out.alloc hb.out.size _
      have bx1 : Hid (Box (wr.alloc (.cells #[.int .i64 (-1)] 2)) wr.heap.size [.int .i64 (-1)] 2) := Box.new wr _ _
      clear hall hc'
      go_wp2_with (go_at_call 42; refine (repeat_any (by omega) (by omega) (bx1.out.cell 0 rfl) bx1.out.lt).mono ?_; rintro e w3 ⟨⟨rfl, hon⟩, hb3⟩)
      have hrow3 : Hid (DRow w3 (wr.heap.size + 1) (List.replicate p.length (-1))) := ones_row (by simpa using hon)
      have hB3 : Hid (Below w.heap.size w w3) := hb1.out.trans (hb3.mono hb1.out.size)
      have hg3 : Hid (w.heap.size ≤ wr.heap.size + 1) := by have := hb.out.size; show _ ≤ _; omega
      clear hon hb3
      refine (comeTo_any _ (w0 := w) (lo := lo) (cap := p.length) 0 0 hp'.out hAll.out (by omega) hf'.out hB3.out hg3.out hrow3.out (by simp) (by omega) (by omega) (by omega) (Nat.le_refl _)).mono ?_
      rintro e w4 ⟨⟨bb, ys, rfl, hcome, hrow4⟩, hout⟩
      have hB4 : Hid (Below w.heap.size w w4) := Out.below0 hout hB3.out hg3.out
      have hrow4' : Hid (DRow w4 (wr.heap.size + 1) ys) := hrow4
      have hcome' : Hid (Come p (List.replicate p.length (-1)) 0 0 bb ys) := hcome
      clear hout hrow4 hcome
      cases bb
      · have HA : Hid (Ans p false []) := Or.inl ⟨hright.out, told_not (by omega) hcome'.out⟩
        go_wp2_with fail
        go_ret2
        exact ⟨DepR.no HA.out, hB4.out⟩
      · have HA : Hid (Ans p true ys) := Or.inl ⟨hright.out, told_come (by omega) hcome'.out⟩
        have hyl : Hid (ys.length = p.length) := by have := hcome'.out.1.1; show _ = _; rw [this]; simp
        go_wp2_with fail
        go_ret2
        exact ⟨DepR.yes HA.out hg3.out hyl.out (Nat.le_refl _) hrow4'.out, hB4.out⟩
/-- what ProgOk answers -/
def OkR (p : List InstrD) (e : Ending) : Prop := ∃ b ys, e = .returned (.bool b) ∧ Ans p b ys
theorem OkR.mk {p : List InstrD} {b : Bool} {ys : List Int} (h : Ans p b ys) : OkR p (.returned (.bool b)) := ⟨b, ys, rfl, h⟩
theorem implProgOk_any {w : World} {lo : Nat} {kp : Value} {p : List InstrD} (hp : SeqAt 3 InstrAt w lo kp p) (hf : Forms w) :
    Calls Tryz.prog 9 #[kp] w fun e w' => OkR p e ∧ Below w.heap.size w w' := by
  have hp' : Hid (SeqAt 3 InstrAt w lo kp p) := hp
  obtain ⟨a, cap, rfl⟩ := hp.form
  have hf' : Hid (Forms w) := hf
  clear hp hf
  go_enter Tryz.func9, Tryz.ntmps9
  go_wp2_with fail
  refine (implDepths_any hp'.out hf'.out).mono ?_
  rintro e w1 ⟨⟨b, ys, k, rfl, hans, _⟩, hb1⟩
  have hans' : Hid (Ans p b ys) := hans
  have hb1' : Hid (Below w.heap.size w w1) := hb1
  clear hans hb1
  go_wp2_with fail
  go_ret
  exact ⟨OkR.mk hans'.out, hb1'.out⟩
end Go.Proofs.YtdapgihghbmlfaaGreatDoor
