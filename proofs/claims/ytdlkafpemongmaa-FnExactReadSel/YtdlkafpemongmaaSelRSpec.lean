/- ReadSel of the specification: walked. -/
import Derived.Test.YtdlkafpemongmaaSelRTop
namespace Go.Proofs.Ytdlkafpemongmaa
open Go.RowKit Go.Deep
theorem cut_one {s a r : ByteArray} {b : Bool} (h : CutAt s a r b) {a0 t0 : List UInt8} (e : s.data.toList = a0 ++ t0) (ha : ∀ c ∈ a0, c ≠ 32) (ht : Sep t0) : a.data.toList = a0 ∧ ((t0 = [] ∧ b = false) ∨ ∃ z, t0 = 32 :: z ∧ b = true ∧ r.data.toList = z) := by
  have key : ∀ (x y z u : List UInt8), (∀ c ∈ x, c ≠ 32) → (∀ c ∈ y, c ≠ 32) → x ++ 32 :: z = y ++ 32 :: u → x = y ∧ z = u := by
    intro x
    induction x with
    | nil =>
      intro y z u _ hy h
      cases y with
      | nil => simp at h; exact ⟨rfl, h⟩
      | cons d y => simp only [List.nil_append, List.cons_append, List.cons.injEq] at h; exact absurd h.1.symm (hy d (by simp))
    | cons c x ih =>
      intro y z u hx hy h
      cases y with
      | nil => simp only [List.nil_append, List.cons_append, List.cons.injEq] at h; exact absurd h.1 (hx c (by simp))
      | cons d y =>
        simp only [List.cons_append, List.cons.injEq] at h
        obtain ⟨h1, h2⟩ := ih y z u (fun q hq => hx q (List.mem_cons_of_mem _ hq)) (fun q hq => hy q (List.mem_cons_of_mem _ hq)) h.2
        exact ⟨by rw [h.1, h1], h2⟩
  cases t0 with
  | nil =>
    rw [List.append_nil] at e
    rcases h with ⟨_, h1, _⟩ | ⟨h1, rfl, _, _⟩
    · exact absurd rfl (ha 32 (by rw [← e, h1]; simp))
    · exact ⟨e, Or.inl ⟨rfl, h1⟩⟩
  | cons c z =>
    obtain rfl := ht c z rfl
    rcases h with ⟨h1, h2, h3⟩ | ⟨_, rfl, _, h4⟩
    · rw [h2] at e
      obtain ⟨q1, q2⟩ := key _ _ _ _ h3 ha e
      exact ⟨q1, Or.inr ⟨z, rfl, h1, q2⟩⟩
    · exact absurd rfl (h4 32 (by rw [e]; simp))
theorem tagL_blank {x : StepD} (h : stepB x = true) : ∀ c ∈ tagL x, c ≠ 32 := by
  by_cases e : x.vTag = ⟨#[]⟩
  · rw [tagL_any e]; intro c hc; simp at hc; rw [hc]; decide
  · rw [stepB_name e] at h
    rw [tagL_name e]
    intro c hc q
    have := lets_get (name_lets h) c hc
    rw [q] at this; exact absurd this (by decide)
/-- how far the specification's loop has come, if there is a right selector at all -/
def SpS (L : List UInt8) (xs : List StepD) (deep more : Bool) (r : List UInt8) : Prop := ∀ l', selB l' = true → L = textS l' → ∃ ys, l' = xs ++ ys ∧ (more = false → ys = []) ∧
  (more = true → deep = true → ∃ y ys', ys = y :: ys' ∧ r = stepL y ++ tailS ys') ∧ (more = true → deep = false → ∃ y ys', ys = y :: ys' ∧ y.vDeep = false ∧ r = tagL y ++ tailS ys')
theorem SpS.start (L : List UInt8) : SpS L [] true true L := fun l' h e => by
  obtain ⟨h1, _, _⟩ := selB_parts h
  cases l' with
  | nil => simp at h1
  | cons y ys => exact ⟨y :: ys, rfl, fun q => (by cases q), fun _ _ => ⟨y, ys, rfl, by rw [e, textS_cons]⟩, fun _ q => (by cases q)⟩
theorem sel_step {l' xs ys : List StepD} {y : StepD} (h : selB l' = true) (e : l' = xs ++ y :: ys) : stepB y = true := by
  obtain ⟨_, _, h3⟩ := selB_parts h
  rw [e, stepsB_append] at h3
  simp only [stepsB, Bool.and_eq_true] at h3
  exact h3.2.1
/-- the tag's text, or the sign of a step that is not deep -/
theorem SpS.head {L : List UInt8} {xs : List StepD} {deep : Bool} {s a r : ByteArray} {b : Bool} (h : SpS L xs deep true s.data.toList) (hc : CutAt s a r b) : ∀ l', selB l' = true → L = textS l' →
    ∃ y ys', l' = xs ++ y :: ys' ∧ stepB y = true ∧ ((deep = true ∧ y.vDeep = false ∧ a.data.toList = [62] ∧ b = true ∧ r.data.toList = tagL y ++ tailS ys') ∨ (deep = y.vDeep ∧ a.data.toList = tagL y ∧ ((ys' = [] ∧ b = false) ∨ ∃ z zs, ys' = z :: zs ∧ b = true ∧ r.data.toList = stepL z ++ tailS zs))) := by
  intro l' h1 h2
  obtain ⟨ys, e1, _, e3, e4⟩ := h l' h1 h2
  have tail : ∀ (ys' : List StepD), (tailS ys' = [] ∧ b = false) ∨ (∃ z, tailS ys' = 32 :: z ∧ b = true ∧ r.data.toList = z) → (ys' = [] ∧ b = false) ∨ ∃ z zs, ys' = z :: zs ∧ b = true ∧ r.data.toList = stepL z ++ tailS zs := by
    intro ys' q
    cases ys' with
    | nil => rcases q with ⟨_, q⟩ | ⟨z, q, _⟩; exact Or.inl ⟨rfl, q⟩; cases q
    | cons z zs =>
      rw [tailS_cons] at q
      rcases q with ⟨q, _⟩ | ⟨u, q, q2, q3⟩
      · cases q
      · injection q with _ q; exact Or.inr ⟨z, zs, rfl, q2, by rw [q3, q]⟩
  cases deep with
  | true =>
    obtain ⟨y, ys', rfl, hr⟩ := e3 rfl rfl
    have hy := sel_step h1 e1
    refine ⟨y, ys', e1, hy, ?_⟩
    rw [stepL_of] at hr
    cases hd : y.vDeep with
    | false =>
      rw [hd] at hr
      left
      have hr' : s.data.toList = [62] ++ 32 :: (tagL y ++ tailS ys') := by rw [hr]; simp
      obtain ⟨q1, q2⟩ := cut_one hc hr' (by intro c hc; simp at hc; rw [hc]; decide) (by intro c z e; injection e with e _; exact e.symm)
      rcases q2 with ⟨q2, _⟩ | ⟨z, q2, q3, q4⟩
      · cases q2
      · injection q2 with _ q2; exact ⟨rfl, rfl, q1, q3, by rw [q4, q2]⟩
    | true =>
      rw [hd] at hr
      right
      have hr' : s.data.toList = tagL y ++ tailS ys' := by rw [hr]; simp
      obtain ⟨q1, q2⟩ := cut_one hc hr' (tagL_blank hy) (tailS_sep ys')
      exact ⟨rfl, q1, tail ys' q2⟩
  | false =>
    obtain ⟨y, ys', rfl, hd, hr⟩ := e4 rfl rfl
    have hy := sel_step h1 e1
    obtain ⟨q1, q2⟩ := cut_one hc hr (tagL_blank hy) (tailS_sep ys')
    exact ⟨y, ys', e1, hy, Or.inr ⟨by rw [hd], q1, tail ys' q2⟩⟩
theorem SpS.sign {L : List UInt8} {xs : List StepD} {deep : Bool} {s a r : ByteArray} {b : Bool} (h : SpS L xs deep true s.data.toList) (hc : CutAt s a r b) (ha : a.data.toList = [62]) : SpS L xs false b r.data.toList := by
  intro l' h1 h2
  obtain ⟨y, ys', e1, hy, q⟩ := h.head hc l' h1 h2
  rcases q with ⟨_, hd, _, hb, hr⟩ | ⟨_, q, _⟩
  · exact ⟨y :: ys', e1, fun q => (by rw [hb] at q; cases q), fun _ q => (by cases q), fun _ _ => ⟨y, ys', rfl, hd, hr⟩⟩
  · obtain ⟨c, t, ht, hc62, _⟩ := tagL_head hy
    rw [ha, ht] at q; injection q with q _; exact absurd q.symm hc62
theorem step_ext {x y : StepD} (h1 : x.vTag = y.vTag) (h2 : x.vDeep = y.vDeep) : x = y := by cases x; cases y; simp_all
theorem SpS.step {L : List UInt8} {xs : List StepD} {deep : Bool} {s a r t : ByteArray} {b : Bool} (h : SpS L xs deep true s.data.toList) (hc : CutAt s a r b) (ha : ¬ a.data.toList = [62]) (ht : t = if a.data.toList = [42] then ⟨#[]⟩ else a) : SpS L (xs ++ [⟨t, deep⟩]) true b r.data.toList := by
  intro l' h1 h2
  obtain ⟨y, ys', e1, hy, q⟩ := h.head hc l' h1 h2
  rcases q with ⟨_, _, q, _⟩ | ⟨hd, q, hz⟩
  · exact absurd q ha
  · have hx : (⟨t, deep⟩ : StepD) = y := by
      refine step_ext ?_ hd
      show t = y.vTag
      rw [ht]
      by_cases e : y.vTag = ⟨#[]⟩
      · rw [tagL_any e] at q; rw [if_pos q, e]
      · have hy' := hy
        rw [stepB_name e] at hy'
        rw [tagL_name e] at q
        have : ¬ a.data.toList = [42] := fun e4 => by
          obtain ⟨c, u, hu, hcl⟩ := name_ne hy'
          rw [← q, e4] at hu; injection hu with hu _; rw [← hu] at hcl; exact absurd hcl (by decide)
        rw [if_neg this]
        exact ba_of q
    rw [hx]
    refine ⟨ys', by rw [e1]; simp, fun hb => ?_, fun hb _ => ?_, fun _ q => (by cases q)⟩
    · rcases hz with ⟨hz, _⟩ | ⟨z, zs, _, hz, _⟩
      · exact hz
      · rw [hb] at hz; cases hz
    · rcases hz with ⟨_, hz⟩ | ⟨z, zs, hz, _, hr⟩
      · rw [hb] at hz; cases hz
      · exact ⟨z, zs, hz, hr⟩
/-- the end of the loop -/
theorem SpS.done {s : ByteArray} {xs : List StepD} {deep more : Bool} {r : List UInt8} (h : SpS s.data.toList xs deep more r) (hm : more = false ∨ 5 < xs.length) : ∀ l', selB l' = true → s.data.toList = textS l' → l' = xs := by
  intro l' h1 h2
  obtain ⟨ys, e1, e2, _⟩ := h l' h1 h2
  rcases hm with hm | hm
  · rw [e2 hm, List.append_nil] at e1; exact e1
  · obtain ⟨_, h5, _⟩ := selB_parts h1
    rw [e1, List.length_append] at h5; omega
/-- what is left, and whether there is more, as a number that goes down -/
def msr (r m : Value) : Nat := match m, r with
  | .bool true, .string s => s.size + 1
  | _, _ => 0
theorem cut_len {s a r : ByteArray} {b : Bool} (h : CutAt s a r b) : a.size ≤ s.size ∧ (b = true → r.size < s.size) ∧ r.size ≤ s.size := by
  rcases h with ⟨_, h, _⟩ | ⟨h1, rfl, rfl, _⟩
  · have := congrArg List.length h
    rw [List.length_append, bd_len, bd_len, List.length_cons, bd_len] at this
    exact ⟨by omega, fun _ => by omega, by omega⟩
  · exact ⟨Nat.le_refl _, fun q => by (rw [h1] at q; cases q), Nat.zero_le _⟩
theorem GrowOwn.empty {α : Type} {T c : Nat} {R : World → List Value → α → List Nat → Prop} {base g : Nat} {w : World} (hb : Box w g [] T) (hg : base ≤ g) : GrowOwn T c R base w (.slice (some ⟨g, 0, none⟩) 0 0) ([] : List α) [] [] :=
  ⟨rfl, rfl, by simp, ⟨by simp, Or.inr ⟨g, 0, #[], rfl, hg, hb, Nat.le_refl _, Nat.zero_le _, by simp, by simp⟩⟩, fun i h => absurd h (by simp), by simp, by simp⟩
theorem selT_yes {l : List StepD} (h : selB l = true) : (selT l).data.toList = textS l := by unfold selT; rw [if_pos h]; show joinT l = _; exact joinT_textS l
theorem selT_no {l : List StepD} (h : ¬ selB l = true) : selT l = ⟨#[]⟩ := by unfold selT; rw [if_neg h]
theorem spec_yes {s : ByteArray} {xs : List StepD} (h0 : ¬ s = ⟨#[]⟩) (h : selT xs = s) : ReadsS s xs true := by
  by_cases hb : selB xs = true
  · exact Or.inl ⟨rfl, hb, by rw [← h]; exact selT_yes hb⟩
  · rw [selT_no hb] at h; exact absurd h.symm h0
theorem spec_no {s : ByteArray} {xs : List StepD} (h : ¬ selT xs = s) (hd : ∀ l', selB l' = true → s.data.toList = textS l' → l' = xs) : ReadsS s [] false :=
  Or.inr ⟨rfl, rfl, fun l' h1 h2 => by
    have e := hd l' h1 h2
    rw [e] at h1 h2
    exact h (ba_of (by rw [selT_yes h1, h2]))⟩
theorem spec_empty {s : ByteArray} (h : s = ⟨#[]⟩) : ReadsS s [] false :=
  Or.inr ⟨rfl, rfl, fun l' h1 h2 => by
    obtain ⟨q1, _, q3⟩ := selB_parts h1
    cases l' with
    | nil => simp at q1
    | cons x xs =>
      simp only [stepsB, Bool.and_eq_true] at q3
      obtain ⟨c, t, ht, _⟩ := tagL_head q3.1
      rw [h, textS_cons, stepL_of, ht] at h2
      have := congrArg List.length h2
      simp at this⟩
set_option maxRecDepth 100000 in
set_option maxHeartbeats 4000000 in
theorem specReadSel_any {w : World} {s : ByteArray} (hs : s.size ≤ 1048576) :
    Calls Try.prog 13 #[.string s] w fun e w' => ReadR s w e w' := by
  have hss : Hid (s.size ≤ 1048576) := hs
  clear hs
  go_enter Try.func13, Try.ntmps13
  go_wp2_with fail
  have hb0 : Hid (Below w.heap.size w (w.alloc (.cells #[] 36))) := (Below.refl _ _).alloc (Nat.le_refl _) _
  have hg0 : Hid (GrowOwn 36 2 StepOwn w.heap.size (w.alloc (.cells #[] 36)) (.slice (some ⟨w.heap.size, 0, none⟩) 0 0) [] [] []) := GrowOwn.empty (Box.new w [] _) (Nat.le_refl _)
  obtain ⟨iT, hiT0, heT0⟩ := Option.map_eq_some_iff.1 infoSp
  simp only [Prod.mk.injEq] at heT0
  have hiT : Hid (Try.prog.info? 36 = some iT) := hiT0
  have heT : Hid (iT.zero = some (.agg #[.string ByteArray.empty, .bool false]) ∧ iT.bytes = 24 ∧ iT.size = 2) := heT0
  clear hiT0 heT0
  go_loopw [4, 5, 6, 7] (fun v d r m wr => ∃ (vk : Value) (xs : List StepD) (dp : Bool) (rs : ByteArray) (mo : Bool), v = vk ∧ d = .bool dp ∧ r = .string rs ∧ m = .bool mo ∧ Hid (∃ bss css, GrowOwn 36 2 StepOwn w.heap.size wr vk xs bss css) ∧ Hid (Below w.heap.size w wr) ∧ Hid (SpS s.data.toList xs dp mo rs.data.toList) ∧ Hid (rs.size ≤ 1048576) ∧ xs.length ≤ 6) (fun _ _ r m _ => msr r m)
  case atStart => exact ⟨_, [], true, s, true, rfl, rfl, rfl, rfl, ⟨[], [], hg0.out⟩, hb0, SpS.start _, hss, by simp⟩
  case round =>
    obtain ⟨vk, xs, dp, rs, mo, rfl, rfl, rfl, rfl, hgrE, hBw, hsp, hrs, hx6⟩ := hrel
    obtain ⟨bss, css, hgr0⟩ := hgrE.out
    obtain ⟨av, capv, rfl⟩ := hgr0.form
    have hgr : Hid (GrowOwn 36 2 StepOwn w.heap.size wr (.slice av xs.length capv) xs bss css) := hgr0
    clear hgr0 hgrE hb0 hg0
    by_cases hgo : mo = true ∧ xs.length ≤ 5
    · obtain ⟨rfl, hx5⟩ := hgo
      have hx5' : (xs.length : Int) ≤ 5 := by omega
      go_wp2_with fail
      refine (l1Cut_any hrs.out).mono ?_
      rintro e w1 ⟨⟨a, r', b', rfl, hcut0⟩, n1, rfl⟩
      have hcut : Hid (CutAt rs a r' b') := hcut0
      have hal := (cut_len hcut0).1
      clear hcut0
      by_cases h62 : a = ⟨#[62]⟩
      · subst h62
        have hsp' : Hid (SpS s.data.toList xs false b' r'.data.toList) := hsp.out.sign hcut.out rfl
        go_wp2_with fail
        go_roundw
        case rel => exact ⟨_, xs, false, r', b', rfl, rfl, rfl, rfl, ⟨bss, css, hgr.out.stay StepOwn_stays (Nat.le_refl _) (fun _ _ _ => rfl)⟩, ⟨hBw.out.os, hBw.out.tape, hBw.out.output, hBw.out.size, hBw.out.block⟩, hsp', by show _ ≤ _; have := hrs.out; have := (cut_len hcut.out).2.2; omega, hx6⟩
        case measure =>
          cases b'
          · show (0 : Nat) < rs.size + 1; omega
          · show r'.size + 1 < rs.size + 1; have := (cut_len hcut.out).2.1 rfl; omega
      · have hn62 : ¬ a.data.toList = [62] := fun e => h62 (ba_of e)
        have g62 : (a.toList == [62]) = false := by have := bd_ne h62; simpa using this
        by_cases h42 : a = ⟨#[42]⟩
        · subst h42
          obtain ⟨t, ht⟩ : ∃ t : ByteArray, t = ⟨#[]⟩ := ⟨_, rfl⟩
          have hsp' : Hid (SpS s.data.toList (xs ++ [⟨t, dp⟩]) true b' r'.data.toList) := hsp.out.step hcut.out hn62 (by rw [if_pos rfl]; exact ht)
          have htm : Hid (t.size ≤ maxLen) := by rw [ht]; exact Nat.zero_le _
          subst ht
          have nb : Hid (Box ((wr.drewN n1).alloc (.cells #[.string ⟨#[]⟩, .bool dp] 36)) wr.heap.size [.string ⟨#[]⟩, .bool dp] 36) := Box.new (wr.drewN n1) _ _
          have hox : Hid (StepOwn ((wr.drewN n1).alloc (.cells #[.string ⟨#[]⟩, .bool dp] 36)) [.string ⟨#[]⟩, .bool dp] ⟨⟨#[]⟩, dp⟩ []) := stepOwn_of (x := ⟨⟨#[]⟩, dp⟩) htm.out
          have hs7 : Hid (wr.heap.size ≤ ((wr.drewN n1).alloc (.cells #[.string ⟨#[]⟩, .bool dp] 36)).heap.size) := by show _ ≤ _; simp
          have hk7 : Hid (∀ b, w.heap.size ≤ b → b < wr.heap.size → ((wr.drewN n1).alloc (.cells #[.string ⟨#[]⟩, .bool dp] 36)).heap[b]? = wr.heap[b]?) := fun b h1 h2 => Below.heap_alloc (wr.drewN n1) _ _ h2
          have hbs : Hid (w.heap.size ≤ wr.heap.size) := hBw.out.size
          go_wp2_with (at_builtin; refine wpList_append_growK StepOwn_stays rfl _ _ 24 rfl w.heap.size iT _ 24 Try.underlying24 hiT.out heT.out.1 heT.out.2.2 heT.out.2.1 rfl (by decide) (y := ⟨⟨#[]⟩, dp⟩) (fs := []) (cs := [.string ⟨#[]⟩, .bool dp]) (v := .slice av xs.length capv) rfl hgr.out hs7.out hk7.out hbs.out _ _ rfl rfl (by intro i u hu; match i, hu with | 0, hu => (simp at hu; subst hu; exact nb.out.cell 0 rfl) | 1, hu => (simp at hu; subst hu; exact nb.out.cell 1 rfl) | i + 2, hu => simp at hu) (by intro u hu; simp at hu; rcases hu with rfl | rfl <;> rfl) hox.out List.nodup_nil (by simp) (by simp) (by unfold maxLen; omega) (by omega) ?_; intro g3 capg w8 hgr8 hg8 hb8; have hgr8' : Hid (GrowOwn 36 2 StepOwn w.heap.size w8 (.slice (some ⟨g3, 0, none⟩) (xs.length + 1) capg) (xs ++ [⟨⟨#[]⟩, dp⟩]) _ _) := hgr8; have hb8' : Hid (Below w.heap.size ((wr.drewN n1).alloc (.cells #[.string ⟨#[]⟩, .bool dp] 36)) w8) := hb8; clear hgr8 hg8 hb8)
          have hBw8 : Hid (Below w.heap.size w w8) := (Below.alloc (show Below w.heap.size w (wr.drewN n1) from ⟨hBw.out.os, hBw.out.tape, hBw.out.output, hBw.out.size, hBw.out.block⟩) hBw.out.size _).trans hb8'.out
          go_roundw
          case rel => exact ⟨_, xs ++ [⟨⟨#[]⟩, dp⟩], true, r', b', rfl, rfl, rfl, rfl, ⟨_, _, hgr8'.out⟩, hBw8, hsp', by show _ ≤ _; have := hrs.out; have := (cut_len hcut.out).2.2; omega, by simp; omega⟩
          case measure =>
            cases b'
            · show (0 : Nat) < rs.size + 1; omega
            · show r'.size + 1 < rs.size + 1; have := (cut_len hcut.out).2.1 rfl; omega
        · have g42 : (a.toList == [42]) = false := by have := bd_ne h42; simpa using this
          have hsp' : Hid (SpS s.data.toList (xs ++ [⟨a, dp⟩]) true b' r'.data.toList) := hsp.out.step hcut.out hn62 (by rw [if_neg (fun e => h42 (ba_of e))])
          have htm : Hid (a.size ≤ maxLen) := by show _ ≤ _; have := hrs.out; unfold maxLen; omega
          have nb : Hid (Box ((wr.drewN n1).alloc (.cells #[.string a, .bool dp] 36)) wr.heap.size [.string a, .bool dp] 36) := Box.new (wr.drewN n1) _ _
          have hox : Hid (StepOwn ((wr.drewN n1).alloc (.cells #[.string a, .bool dp] 36)) [.string a, .bool dp] ⟨a, dp⟩ []) := stepOwn_of (x := ⟨a, dp⟩) htm.out
          have hs7 : Hid (wr.heap.size ≤ ((wr.drewN n1).alloc (.cells #[.string a, .bool dp] 36)).heap.size) := by show _ ≤ _; simp
          have hk7 : Hid (∀ b, w.heap.size ≤ b → b < wr.heap.size → ((wr.drewN n1).alloc (.cells #[.string a, .bool dp] 36)).heap[b]? = wr.heap[b]?) := fun b h1 h2 => Below.heap_alloc (wr.drewN n1) _ _ h2
          have hbs : Hid (w.heap.size ≤ wr.heap.size) := hBw.out.size
          go_wp2_with (at_builtin; refine wpList_append_growK StepOwn_stays rfl _ _ 24 rfl w.heap.size iT _ 24 Try.underlying24 hiT.out heT.out.1 heT.out.2.2 heT.out.2.1 rfl (by decide) (y := ⟨a, dp⟩) (fs := []) (cs := [.string a, .bool dp]) (v := .slice av xs.length capv) rfl hgr.out hs7.out hk7.out hbs.out _ _ rfl rfl (by intro i u hu; match i, hu with | 0, hu => (simp at hu; subst hu; exact nb.out.cell 0 rfl) | 1, hu => (simp at hu; subst hu; exact nb.out.cell 1 rfl) | i + 2, hu => simp at hu) (by intro u hu; simp at hu; rcases hu with rfl | rfl <;> rfl) hox.out List.nodup_nil (by simp) (by simp) (by unfold maxLen; omega) (by omega) ?_; intro g3 capg w8 hgr8 hg8 hb8; have hgr8' : Hid (GrowOwn 36 2 StepOwn w.heap.size w8 (.slice (some ⟨g3, 0, none⟩) (xs.length + 1) capg) (xs ++ [⟨a, dp⟩]) _ _) := hgr8; have hb8' : Hid (Below w.heap.size ((wr.drewN n1).alloc (.cells #[.string a, .bool dp] 36)) w8) := hb8; clear hgr8 hg8 hb8)
          have hBw8 : Hid (Below w.heap.size w w8) := (Below.alloc (show Below w.heap.size w (wr.drewN n1) from ⟨hBw.out.os, hBw.out.tape, hBw.out.output, hBw.out.size, hBw.out.block⟩) hBw.out.size _).trans hb8'.out
          go_roundw
          case rel => exact ⟨_, xs ++ [⟨a, dp⟩], true, r', b', rfl, rfl, rfl, rfl, ⟨_, _, hgr8'.out⟩, hBw8, hsp', by show _ ≤ _; have := hrs.out; have := (cut_len hcut.out).2.2; omega, by simp; omega⟩
          case measure =>
            cases b'
            · show (0 : Nat) < rs.size + 1; omega
            · show r'.size + 1 < rs.size + 1; have := (cut_len hcut.out).2.1 rfl; omega
    · have hm : mo = false ∨ 5 < xs.length := by cases mo with | false => exact Or.inl rfl | true => (right; rcases Nat.lt_or_ge 5 xs.length with h | h; exact h; exact absurd ⟨rfl, h⟩ hgo)
      have hdone : Hid (∀ l', selB l' = true → s.data.toList = textS l' → l' = xs) := hsp.out.done hm
      have hstop : mo = false ∨ (mo = true ∧ ¬ (xs.length : Int) ≤ 5) := by cases mo with | false => exact Or.inl rfl | true => (right; refine ⟨rfl, ?_⟩; rcases Nat.lt_or_ge 5 xs.length with h | h; omega; exact absurd ⟨rfl, h⟩ hgo)
      clear hm hgo hsp
      by_cases h0 : s = ⟨#[]⟩
      · have hno : Hid (ReadsS s [] false) := spec_empty h0
        subst h0
        rcases hstop with rfl | ⟨rfl, hx⟩
        all_goals
          go_wp2_with fail
          go_ret2
          exact ReadR.mk none 0 0 [] [] false (seqOwn_nil _) List.nodup_nil (by simp) hno.out hBw.out
      · have g0 : (s.toList == []) = false := by have := bd_ne h0; simpa using this
        have ho : Hid (∃ fs, SeqOwn 2 StepOwn wr (.slice av xs.length capv) xs fs ∧ ∀ b ∈ fs, w.heap.size ≤ b) := hgr.out.done
        rcases hstop with rfl | ⟨rfl, hx⟩
        all_goals
          go_wp2_with fail
          obtain ⟨fs, o1, o2⟩ := ho.out
          refine (specSelText_any (lo := 0) (o1.at StepOwn_at (fun _ _ => Nat.zero_le _))).mono ?_
          rintro e w2 ⟨rfl, hb2⟩
          have hB2 : Hid (Below w.heap.size w w2) := hBw.out.trans (hb2.mono hBw.out.size)
          have o1' : Hid (SeqOwn 2 StepOwn w2 (.slice av xs.length capv) xs fs) := o1.stays StepOwn_stays (fun b q => hb2.block b (o1.lt StepOwn_lt b q))
          have o2' : Hid (∀ b ∈ fs, w.heap.size ≤ b) := o2
          clear hb2 o1 o2
          by_cases htx : selT xs = s
          · have hyes : Hid (ReadsS s xs true) := spec_yes h0 htx
            rw [htx]
            clear htx
            go_wp2_with fail
            go_ret2
            exact ReadR.mk _ _ _ xs fs true o1'.out o1'.out.nodup o2'.out hyes.out hB2.out
          · have hno : Hid (ReadsS s [] false) := spec_no htx hdone.out
            have hne2 : ((selT xs).toList == s.toList) = false := by simpa using bd_ne htx
            have hne3 : (!((selT xs).toList == s.toList)) = true := by rw [hne2]; rfl
            go_wp2_with fail
            go_ret2
            exact ReadR.mk none 0 0 [] [] false (seqOwn_nil _) List.nodup_nil (by simp) hno.out hB2.out
end Go.Proofs.Ytdlkafpemongmaa
