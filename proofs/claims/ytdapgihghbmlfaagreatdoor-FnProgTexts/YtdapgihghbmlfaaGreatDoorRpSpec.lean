/- ReadProg of the specification: walked. -/
import Derived.Test.YtdapgihghbmlfaaGreatDoorRpSin
namespace Go.Proofs.YtdapgihghbmlfaaGreatDoor
open Go.RowKit Go.Deep
theorem instr_free {y : InstrD} (h : instrB y = true) : ∀ c ∈ instrL y, c ≠ 59 := by
  have hk := instrB_kind h
  have hw : ∀ c ∈ (wordT y.vKind).data.toList, c ≠ 59 := fun c hc e => by
    have := lets_get (name_lets (wordT_name hk)) c hc
    rw [e] at this; exact absurd this (by decide)
  have hn : ∀ c ∈ Lib.itoa y.vN, c ≠ 59 := fun c hc e => by
    have := itoa_num y.vN c hc
    rw [e] at this; exact absurd this (by decide)
  have h0 := h
  rw [instrB_some hk] at h
  intro c hc
  unfold instrL at hc
  rcases opT_range y.vKind with q | q
  · rw [instrT_none q] at hc; exact hw c hc
  · by_cases q3 : opT y.vKind = 3
    · rw [instrT_name q3, stx_app, stx_app] at hc
      rw [q3, opdB_name] at h
      simp only [Bool.and_eq_true] at h
      rcases List.mem_append.1 hc with hc | hc
      · rcases List.mem_append.1 hc with hc | hc
        · exact hw c hc
        · simp at hc; rw [hc]; decide
      · intro e
        have := lets_get (name_lets h.2) c hc
        rw [e] at this; exact absurd this (by decide)
    · rw [instrT_num (by omega), stx_app, stx_app] at hc
      rcases List.mem_append.1 hc with hc | hc
      · rcases List.mem_append.1 hc with hc | hc
        · exact hw c hc
        · simp at hc; rw [hc]; decide
      · exact hn c (by simpa [decT] using hc)
/-- where the specification's reader stands -/
def SpP (L : List UInt8) (xs : List InstrD) (more : Bool) (r : List UInt8) : Prop := ∀ l', OkP l' → L = textP l' → ∃ ys, l' = xs ++ ys ∧ (more = false → ys = []) ∧ (more = true → ∃ y ys', ys = y :: ys' ∧ r = (if xs = [] then [] else [32]) ++ (instrL y ++ tailP ys'))
theorem SpP.start (L : List UInt8) : SpP L [] true L := by
  intro l' h e
  cases l' with
  | nil => exact absurd rfl h.parts.1
  | cons y ys => exact ⟨y :: ys, rfl, fun q => (by cases q), fun _ => ⟨y, ys, rfl, by rw [e, textP_cons]; rfl⟩⟩
theorem SpP.cut {L : List UInt8} {xs : List InstrD} {s a r : ByteArray} {b : Bool} (h : SpP L xs true s.data.toList) (hc : CutAt 59 s a r b) : ∀ l', OkP l' → L = textP l' → ∃ y ys', l' = xs ++ y :: ys' ∧ instrB y = true ∧ a.data.toList = (if xs = [] then [] else [32]) ++ instrL y ∧ ((ys' = [] ∧ b = false) ∨ (b = true ∧ ∃ z zs, ys' = z :: zs ∧ r.data.toList = [32] ++ (instrL z ++ tailP zs))) := by
  intro l' h1 h2
  obtain ⟨ys, e1, _, e3⟩ := h l' h1 h2
  obtain ⟨y, ys', rfl, e4⟩ := e3 rfl
  have hy : instrB y = true := h1.parts.2.2 y (by rw [e1]; simp)
  have hfree : ∀ c ∈ (if xs = [] then [] else [32]) ++ instrL y, c ≠ 59 := fun c hc => by
    rcases List.mem_append.1 hc with hc | hc
    · split at hc
      · cases hc
      · simp at hc; rw [hc]; decide
    · exact instr_free hy c hc
  refine ⟨y, ys', e1, hy, ?_⟩
  rw [← List.append_assoc] at e4
  cases ys' with
  | nil =>
    have e5 : s.data.toList = (if xs = [] then [] else [32]) ++ instrL y := by rw [e4]; simp [tailP]
    obtain ⟨hb, rfl⟩ := cut_none hc (by rw [e5]; exact hfree)
    exact ⟨e5, Or.inl ⟨rfl, hb⟩⟩
  | cons z zs =>
    rw [tailP_cons] at e4
    obtain ⟨hb, h3, h4⟩ := cut_yes hc e4 hfree
    exact ⟨h3, Or.inr ⟨hb, z, zs, rfl, h4⟩⟩
theorem SpP.step {L : List UInt8} {xs : List InstrD} {s a r : ByteArray} {b : Bool} (h : SpP L xs true s.data.toList) (hc : CutAt 59 s a r b) {x : InstrD} (hx : ∀ y, instrB y = true → a.data.toList = (if xs = [] then [] else [32]) ++ instrL y → x = y) : SpP L (xs ++ [x]) b r.data.toList := by
  intro l' h1 h2
  obtain ⟨y, ys', e1, hy, ha, hor⟩ := h.cut hc l' h1 h2
  have := hx y hy ha
  subst this
  refine ⟨ys', by rw [e1]; simp, fun hb => ?_, fun hb => ?_⟩
  · rcases hor with ⟨q, _⟩ | ⟨q, _⟩
    · exact q
    · rw [hb] at q; cases q
  · rcases hor with ⟨_, q⟩ | ⟨_, z, zs, q1, q2⟩
    · rw [hb] at q; cases q
    · exact ⟨z, zs, q1, by rw [q2, if_neg (by simp)]⟩
theorem SpP.none {s : ByteArray} {xs : List InstrD} {t a r : ByteArray} {b : Bool} (h : SpP s.data.toList xs true t.data.toList) (hc : CutAt 59 t a r b) (hx : ∀ y, instrB y = true → a.data.toList = (if xs = [] then [] else [32]) ++ instrL y → False) : ReadsP s [] false :=
  Or.inr ⟨rfl, rfl, fun l' h1 h2 => by obtain ⟨y, _, _, hy, ha, _⟩ := h.cut hc l' h1 h2; exact hx y hy ha⟩
theorem SpP.done {s : ByteArray} {xs : List InstrD} {more : Bool} {r : List UInt8} (h : SpP s.data.toList xs more r) (hm : more = false ∨ 20 < xs.length) : ∀ l', OkP l' → s.data.toList = textP l' → l' = xs := by
  intro l' h1 h2
  obtain ⟨ys, e1, e2, _⟩ := h l' h1 h2
  rcases hm with hm | hm
  · rw [e2 hm, List.append_nil] at e1; exact e1
  · have h5 := h1.parts.2.1
    rw [e1, List.length_append] at h5; omega
/-- what is left, and whether there is more, as a number that goes down -/
def msr (r m : Value) : Nat := match m, r with
  | .bool true, .string s => s.size + 1
  | _, _ => 0
theorem GrowOwn.empty {α : Type} {T c : Nat} {R : World → List Value → α → List Nat → Prop} {base g : Nat} {w : World} (hb : Box w g [] T) (hg : base ≤ g) : GrowOwn T c R base w (.slice (some ⟨g, 0, none⟩) 0 0) ([] : List α) [] [] :=
  ⟨rfl, rfl, by simp, ⟨by simp, Or.inr ⟨g, 0, #[], rfl, hg, hb, Nat.le_refl _, Nat.zero_le _, by simp, by simp⟩⟩, fun i h => absurd h (by simp), by simp, by simp⟩
theorem text_ne {l : List InstrD} (h : OkP l) : textP l ≠ [] := by
  obtain ⟨h0, _, hall⟩ := h.parts
  cases l with
  | nil => exact absurd rfl h0
  | cons x xs =>
    intro e
    rw [textP_cons] at e
    have hx := hall x (by simp)
    have e1 := (List.append_eq_nil_iff.1 e).1
    have hr := rdInstr_of hx (r := []) (fun c z q => by cases q)
    rw [List.append_nil, e1] at hr
    simp [rdInstr, lw, nameB] at hr
theorem progT_yes {l : List InstrD} : (progT l true).data.toList = textP l := by unfold progT; rw [if_pos rfl]; show joinT l = _; exact joinT_textP l
theorem spec_yes {s : ByteArray} {xs : List InstrD} {b : Bool} {ys : List Int} (h0 : ¬ s = ⟨#[]⟩) (ha : Ans xs b ys) (h : progT xs b = s) : ReadsP s xs true := by
  cases b
  · exact absurd h.symm h0
  · exact Or.inl ⟨rfl, ⟨ys, ha⟩, by rw [← h]; exact progT_yes⟩
theorem spec_no {s : ByteArray} {xs : List InstrD} {b : Bool} {ys : List Int} (ha : Ans xs b ys) (h : ¬ progT xs b = s) (hd : ∀ l', OkP l' → s.data.toList = textP l' → l' = xs) : ReadsP s [] false :=
  Or.inr ⟨rfl, rfl, fun l' h1 h2 => by
    have e := hd l' h1 h2
    rw [e] at h1 h2
    obtain ⟨zs, hz⟩ := h1
    have hb := (ans_same ha hz).1
    subst hb
    exact h (ba_of (by rw [progT_yes, h2]))⟩
theorem spec_empty {s : ByteArray} (h : s = ⟨#[]⟩) : ReadsP s [] false :=
  Or.inr ⟨rfl, rfl, fun l' h1 h2 => text_ne h1 (by rw [← h2, h])⟩
theorem cut_one {a : ByteArray} (h : 1 ≤ a.size) (h32 : (a[0].toNat : Int) = 32) : a.data.toList = 32 :: (a.extract 1 a.size).data.toList := by
  have e0 : a.data.toList = a[0] :: rest a 1 := by have := rest_cons (s := a) (q := 0) (by omega); simpa [rest] using this
  rw [ext_from]
  rw [show a[0] = 32 from by apply UInt8.toNat_inj.1; show a[0].toNat = 32; omega] at e0
  exact e0
theorem cut_not {a : ByteArray} {l : List UInt8} (h : a.size = 0 ∨ ∃ q : 0 < a.size, ¬ (a[0].toNat : Int) = 32) (e : a.data.toList = [32] ++ l) : False := by
  rcases h with h | ⟨q, h⟩
  · have := congrArg List.length e
    rw [bd_len, h] at this; simp at this
  · have e0 : a.data.toList = a[0] :: rest a 1 := by have := rest_cons (s := a) (q := 0) q; simpa [rest] using this
    rw [e0] at e
    simp only [List.singleton_append] at e
    injection e with e _
    apply h; rw [e]; rfl
set_option maxRecDepth 100000 in
set_option maxHeartbeats 8000000 in
theorem specReadProg_any {w : World} {s : ByteArray} (hs : s.size ≤ 1048576) :
    Calls Tryz.prog 12 #[.string s] w fun e w' => ReadR s w e w' := by
  have hss : Hid (s.size ≤ 1048576) := hs
  clear hs
  go_enter Tryz.func12, Tryz.ntmps12
  go_wp2_with fail
  have hb0 : Hid (Below w.heap.size w (w.alloc (.cells #[] 34))) := (Below.refl _ _).alloc (Nat.le_refl _) _
  have hg0 : Hid (GrowOwn 34 3 InstrOwn w.heap.size (w.alloc (.cells #[] 34)) (.slice (some ⟨w.heap.size, 0, none⟩) 0 0) [] [] []) := GrowOwn.empty (Box.new w [] _) (Nat.le_refl _)
  obtain ⟨iT, hiT0, heT0⟩ := Option.map_eq_some_iff.1 infoSp
  simp only [Prod.mk.injEq] at heT0
  have hiT : Hid (Tryz.prog.info? 34 = some iT) := hiT0
  have heT : Hid (iT.zero = some (.agg #[.int .i64 0, .int .i64 0, .string ByteArray.empty]) ∧ iT.bytes = 32 ∧ iT.size = 3) := heT0
  clear hiT0 heT0
  go_loopw [4, 5, 6] (fun v r m wr => ∃ (vk : Value) (xs : List InstrD) (rs : ByteArray) (mo : Bool), v = vk ∧ r = .string rs ∧ m = .bool mo ∧ Hid (∃ bss css, GrowOwn 34 3 InstrOwn w.heap.size wr vk xs bss css) ∧ Hid (Below w.heap.size w wr) ∧ Hid (SpP s.data.toList xs mo rs.data.toList) ∧ Hid (rs.size ≤ 1048576) ∧ xs.length ≤ 21) (fun _ r m _ => msr r m)
  case atStart => exact ⟨_, [], s, true, rfl, rfl, rfl, ⟨[], [], hg0.out⟩, hb0, SpP.start _, hss, by simp⟩
  case round =>
    obtain ⟨vk, xs, rs, mo, rfl, rfl, rfl, hgrE, hBw, hsp, hrs, hx6⟩ := hrel
    obtain ⟨bss, css, hgr0⟩ := hgrE.out
    obtain ⟨av, capv, rfl⟩ := hgr0.form
    have hgr : Hid (GrowOwn 34 3 InstrOwn w.heap.size wr (.slice av xs.length capv) xs bss css) := hgr0
    clear hgr0 hgrE hb0 hg0
    by_cases hgo : mo = true ∧ xs.length ≤ 20
    · obtain ⟨rfl, hx5⟩ := hgo
      have hx5' : (xs.length : Int) ≤ 20 := by omega
      go_wp2_with fail
      refine (l1Cut_any 59 59 rfl hrs.out).mono ?_
      rintro e w1 ⟨⟨a, r', b', rfl, hcut0⟩, n1, rfl⟩
      have hcut : Hid (CutAt 59 rs a r' b') := hcut0
      have hal := (cut_len hcut0).1
      clear hcut0
      have hB1 : Hid (Below w.heap.size w (wr.drewN n1)) := ⟨hBw.out.os, hBw.out.tape, hBw.out.output, hBw.out.size, hBw.out.block⟩
      have hgr1 : Hid (GrowOwn 34 3 InstrOwn w.heap.size (wr.drewN n1) (.slice av xs.length capv) xs bss css) := hgr.out.stay InstrOwn_stays (Nat.le_refl _) (fun _ _ _ => rfl)
      clear hgr hBw
      generalize wr.drewN n1 = wq at *
      by_cases hx0 : xs = []
      · have hxn : ¬ 0 < (xs.length : Int) := by rw [hx0]; simp
        obtain ⟨t, ht⟩ : ∃ t, a = t := ⟨_, rfl⟩
        have hone' : Hid (∀ y, instrB y = true → a.data.toList = (if xs = [] then [] else [32]) ++ instrL y → t.data.toList = instrL y) := fun y _ q => by rw [if_pos hx0] at q; rw [← ht]; exact q
        have hts : Hid (t.size ≤ 1048576) := by show _ ≤ _; rw [← ht]; have := hrs.out; omega
        have ht' : Hid (a = t) := ht
        clear ht hx0
        go_wp2_with fail
        rw [ht'.out]
        clear ht' hxn
        refine (l13Instr_any t hts.out _).mono ?_
        rintro e w3 ⟨x, ok, rfl, hk, hn, hnm, hcl, hb3⟩
        have hx : Hid (∀ y, instrB y = true → a.data.toList = (if xs = [] then [] else [32]) ++ instrL y → x = y ∧ ok = true) := fun y q1 q2 => hcl y q1 (hone'.out y q1 q2)
        have hB3 : Hid (Below w.heap.size w w3) := hB1.out.trans (hb3.mono hB1.out.size)
        have hgr3 : Hid (GrowOwn 34 3 InstrOwn w.heap.size w3 (.slice av xs.length capv) xs bss css) := hgr1.out.stay InstrOwn_stays hb3.size (fun b h1 h2 => hb3.block b h2)
        have hox0 : Hid (∀ W, InstrOwn W [.int .i64 x.vKind, .int .i64 x.vN, .string x.vName] x []) := fun W => instrOwn_of (by unfold maxLen; omega) (by unfold InI; omega) hn
        clear hk hn hnm hcl hb3 hgr1 hB1
        cases ok
        · have hno : Hid (ReadsP s [] false) := hsp.out.none hcut.out (fun y q1 q2 => by have := (hx.out y q1 q2).2; cases this)
          go_wp2_with fail
          go_ret2
          exact ReadR.mk none 0 0 [] [] false (seqOwn_nil _) List.nodup_nil (by simp) hno.out (hB3.out.alloc hB3.out.size _)
        have hsp' : Hid (SpP s.data.toList (xs ++ [x]) b' r'.data.toList) := hsp.out.step hcut.out (fun y q1 q2 => (hx.out y q1 q2).1)
        obtain ⟨W3, hW3⟩ : ∃ W3, w3.alloc (.cells #[.int .i64 x.vKind, .int .i64 x.vN, .string x.vName] 34) = W3 := ⟨_, rfl⟩
        have bx : Hid (Box W3 w3.heap.size [.int .i64 x.vKind, .int .i64 x.vN, .string x.vName] 34) := by rw [← hW3]; exact Box.new w3 _ _
        have hB4 : Hid (Below w.heap.size w W3) := by rw [← hW3]; exact hB3.out.alloc hB3.out.size _
        have hgr4 : Hid (GrowOwn 34 3 InstrOwn w.heap.size W3 (.slice av xs.length capv) xs bss css) := by rw [← hW3]; exact hgr3.out.stay InstrOwn_stays (by simp) (fun b h1 h2 => Below.heap_alloc w3 _ _ h2)
        have hW3' : Hid (w3.alloc (.cells #[.int .i64 x.vKind, .int .i64 x.vN, .string x.vName] 34) = W3) := hW3
        clear hW3 hB3 hgr3
        go_upto_region 14 with fail
        rw [hW3'.out]
        clear hW3'
        have nb : Hid (Box (W3.alloc (.cells #[.int .i64 x.vKind, .int .i64 x.vN, .string x.vName] 34)) W3.heap.size [.int .i64 x.vKind, .int .i64 x.vN, .string x.vName] 34) := Box.new W3 _ _
        have hs7 : Hid (W3.heap.size ≤ (W3.alloc (.cells #[.int .i64 x.vKind, .int .i64 x.vN, .string x.vName] 34)).heap.size) := by show _ ≤ _; simp
        have hk7 : Hid (∀ b, w.heap.size ≤ b → b < W3.heap.size → (W3.alloc (.cells #[.int .i64 x.vKind, .int .i64 x.vN, .string x.vName] 34)).heap[b]? = W3.heap[b]?) := fun b h1 h2 => Below.heap_alloc W3 _ _ h2
        have hbs : Hid (w.heap.size ≤ W3.heap.size) := hB4.out.size
        have x0 := bx.out.cell 0 rfl
        have x1 := bx.out.cell 1 rfl
        have x2 := bx.out.cell 2 rfl
        go_wp2_with (at_builtin; refine wpList_append_growK InstrOwn_stays rfl _ _ 24 rfl w.heap.size iT _ 32 Tryz.underlying24 hiT.out heT.out.1 heT.out.2.2 heT.out.2.1 rfl (by decide) (y := x) (fs := []) (cs := [.int .i64 x.vKind, .int .i64 x.vN, .string x.vName]) (v := .slice av xs.length capv) rfl hgr4.out hs7.out hk7.out hbs.out _ _ rfl rfl (by intro i u hu; match i, hu with | 0, hu => (simp at hu; subst hu; simp [Addr.add]) | 1, hu => (simp at hu; subst hu; simp [Addr.add]) | 2, hu => (simp at hu; subst hu; simp [Addr.add]) | i + 3, hu => simp at hu) (by intro u hu; simp at hu; rcases hu with rfl | rfl | rfl <;> rfl) (hox0.out _) List.nodup_nil (by simp) (by simp) (by unfold maxLen; omega) (by omega) ?_; intro g3 capg w8 hgr8 hg8 hb8; have hgr8' : Hid (GrowOwn 34 3 InstrOwn w.heap.size w8 (.slice (some ⟨g3, 0, none⟩) (xs.length + 1) capg) (xs ++ [x]) _ _) := hgr8; have hb8' : Hid (Below w.heap.size (W3.alloc (.cells #[.int .i64 x.vKind, .int .i64 x.vN, .string x.vName] 34)) w8) := hb8; clear hgr8 hg8 hb8)
        have hBw8 : Hid (Below w.heap.size w w8) := (hB4.out.alloc hB4.out.size _).trans hb8'.out
        go_roundw
        case rel => exact ⟨_, xs ++ [x], r', b', rfl, rfl, rfl, ⟨_, _, hgr8'.out⟩, hBw8, hsp', by show _ ≤ _; have := hrs.out; have := (cut_len hcut.out).2.2; omega, by simp; omega⟩
        case measure =>
          cases b'
          · show (0 : Nat) < rs.size + 1; omega
          · show r'.size + 1 < rs.size + 1; have := (cut_len hcut.out).2.1 rfl; omega
      · have hxp : 0 < (xs.length : Int) := by have := List.length_pos_iff.2 hx0; omega
        by_cases ha0 : (a.size : Int) = 0
        · have hno : Hid (ReadsP s [] false) := hsp.out.none hcut.out (fun y _ q => by rw [if_neg hx0] at q; exact cut_not (Or.inl (by omega)) q)
          go_wp2_with fail
          go_ret2
          exact ReadR.mk none 0 0 [] [] false (seqOwn_nil _) List.nodup_nil (by simp) hno.out hB1.out
        have hap : 0 < a.size := by omega
        by_cases h32 : (a[0].toNat : Int) = 32
        · have hz0 : ((a.size : Int) == 0) = false := by simpa using ha0
          have hc0 : (((a.size : Int) == 0) || ((a[0].toNat : Int) != 32)) = false := by rw [hz0, h32]; rfl
          have hsl : ∀ w, (Instr.slice 9 (.string a) (some (.int .i64 1)) none none).run Tryz.prog w = .ok (.string (a.extract 1 a.size)) w := fun w => by have := sl_from a 1 (by omega) w; simpa using this
          have h1s : Hid (a.data.toList = 32 :: (a.extract 1 a.size).data.toList) := cut_one (by omega) h32
          have hts0 : (a.extract 1 a.size).size ≤ 1048576 := by have := hrs.out; simp; omega
          obtain ⟨t, ht⟩ : ∃ t, a.extract 1 a.size = t := ⟨_, rfl⟩
          rw [ht] at hsl hts0
          have hone' : Hid (∀ y, instrB y = true → a.data.toList = (if xs = [] then [] else [32]) ++ instrL y → t.data.toList = instrL y) := fun y _ q => by
            rw [if_neg hx0, h1s.out, ht] at q
            simpa using q
          have hts : Hid (t.size ≤ 1048576) := hts0
          clear hts0 ht
          go_wp2_with fail
          clear hsl h1s
          refine (l13Instr_any t hts.out _).mono ?_
          rintro e w3 ⟨x, ok, rfl, hk, hn, hnm, hcl, hb3⟩
          have hx : Hid (∀ y, instrB y = true → a.data.toList = (if xs = [] then [] else [32]) ++ instrL y → x = y ∧ ok = true) := fun y q1 q2 => hcl y q1 (hone'.out y q1 q2)
          have hB3 : Hid (Below w.heap.size w w3) := hB1.out.trans (hb3.mono hB1.out.size)
          have hgr3 : Hid (GrowOwn 34 3 InstrOwn w.heap.size w3 (.slice av xs.length capv) xs bss css) := hgr1.out.stay InstrOwn_stays hb3.size (fun b h1 h2 => hb3.block b h2)
          have hox0 : Hid (∀ W, InstrOwn W [.int .i64 x.vKind, .int .i64 x.vN, .string x.vName] x []) := fun W => instrOwn_of (by unfold maxLen; omega) (by unfold InI; omega) hn
          clear hk hn hnm hcl hb3 hgr1 hB1
          cases ok
          · have hno : Hid (ReadsP s [] false) := hsp.out.none hcut.out (fun y q1 q2 => by have := (hx.out y q1 q2).2; cases this)
            go_wp2_with fail
            go_ret2
            exact ReadR.mk none 0 0 [] [] false (seqOwn_nil _) List.nodup_nil (by simp) hno.out (hB3.out.alloc hB3.out.size _)
          have hsp' : Hid (SpP s.data.toList (xs ++ [x]) b' r'.data.toList) := hsp.out.step hcut.out (fun y q1 q2 => (hx.out y q1 q2).1)
          obtain ⟨W3, hW3⟩ : ∃ W3, w3.alloc (.cells #[.int .i64 x.vKind, .int .i64 x.vN, .string x.vName] 34) = W3 := ⟨_, rfl⟩
          have bx : Hid (Box W3 w3.heap.size [.int .i64 x.vKind, .int .i64 x.vN, .string x.vName] 34) := by rw [← hW3]; exact Box.new w3 _ _
          have hB4 : Hid (Below w.heap.size w W3) := by rw [← hW3]; exact hB3.out.alloc hB3.out.size _
          have hgr4 : Hid (GrowOwn 34 3 InstrOwn w.heap.size W3 (.slice av xs.length capv) xs bss css) := by rw [← hW3]; exact hgr3.out.stay InstrOwn_stays (by simp) (fun b h1 h2 => Below.heap_alloc w3 _ _ h2)
          have hW3' : Hid (w3.alloc (.cells #[.int .i64 x.vKind, .int .i64 x.vN, .string x.vName] 34) = W3) := hW3
          clear hW3 hB3 hgr3
          go_upto_region 14 with fail
          rw [hW3'.out]
          clear hW3'
          have nb : Hid (Box (W3.alloc (.cells #[.int .i64 x.vKind, .int .i64 x.vN, .string x.vName] 34)) W3.heap.size [.int .i64 x.vKind, .int .i64 x.vN, .string x.vName] 34) := Box.new W3 _ _
          have hs7 : Hid (W3.heap.size ≤ (W3.alloc (.cells #[.int .i64 x.vKind, .int .i64 x.vN, .string x.vName] 34)).heap.size) := by show _ ≤ _; simp
          have hk7 : Hid (∀ b, w.heap.size ≤ b → b < W3.heap.size → (W3.alloc (.cells #[.int .i64 x.vKind, .int .i64 x.vN, .string x.vName] 34)).heap[b]? = W3.heap[b]?) := fun b h1 h2 => Below.heap_alloc W3 _ _ h2
          have hbs : Hid (w.heap.size ≤ W3.heap.size) := hB4.out.size
          have x0 := bx.out.cell 0 rfl
          have x1 := bx.out.cell 1 rfl
          have x2 := bx.out.cell 2 rfl
          go_wp2_with (at_builtin; refine wpList_append_growK InstrOwn_stays rfl _ _ 24 rfl w.heap.size iT _ 32 Tryz.underlying24 hiT.out heT.out.1 heT.out.2.2 heT.out.2.1 rfl (by decide) (y := x) (fs := []) (cs := [.int .i64 x.vKind, .int .i64 x.vN, .string x.vName]) (v := .slice av xs.length capv) rfl hgr4.out hs7.out hk7.out hbs.out _ _ rfl rfl (by intro i u hu; match i, hu with | 0, hu => (simp at hu; subst hu; simp [Addr.add]) | 1, hu => (simp at hu; subst hu; simp [Addr.add]) | 2, hu => (simp at hu; subst hu; simp [Addr.add]) | i + 3, hu => simp at hu) (by intro u hu; simp at hu; rcases hu with rfl | rfl | rfl <;> rfl) (hox0.out _) List.nodup_nil (by simp) (by simp) (by unfold maxLen; omega) (by omega) ?_; intro g3 capg w8 hgr8 hg8 hb8; have hgr8' : Hid (GrowOwn 34 3 InstrOwn w.heap.size w8 (.slice (some ⟨g3, 0, none⟩) (xs.length + 1) capg) (xs ++ [x]) _ _) := hgr8; have hb8' : Hid (Below w.heap.size (W3.alloc (.cells #[.int .i64 x.vKind, .int .i64 x.vN, .string x.vName] 34)) w8) := hb8; clear hgr8 hg8 hb8)
          have hBw8 : Hid (Below w.heap.size w w8) := (hB4.out.alloc hB4.out.size _).trans hb8'.out
          go_roundw
          case rel => exact ⟨_, xs ++ [x], r', b', rfl, rfl, rfl, ⟨_, _, hgr8'.out⟩, hBw8, hsp', by show _ ≤ _; have := hrs.out; have := (cut_len hcut.out).2.2; omega, by simp; omega⟩
          case measure =>
            cases b'
            · show (0 : Nat) < rs.size + 1; omega
            · show r'.size + 1 < rs.size + 1; have := (cut_len hcut.out).2.1 rfl; omega
        · have hno : Hid (ReadsP s [] false) := hsp.out.none hcut.out (fun y _ q => by rw [if_neg hx0] at q; exact cut_not (Or.inr ⟨hap, h32⟩) q)
          have hz0 : ((a.size : Int) == 0) = false := by simpa using ha0
          have h32b : ((a[0].toNat : Int) != 32) = true := by simpa using h32
          have hc0 : (((a.size : Int) == 0) || ((a[0].toNat : Int) != 32)) = true := by rw [h32b]; simp
          go_wp2_with fail
          go_ret2
          exact ReadR.mk none 0 0 [] [] false (seqOwn_nil _) List.nodup_nil (by simp) hno.out hB1.out
    · have hm : mo = false ∨ 20 < xs.length := by cases mo with | false => exact Or.inl rfl | true => (right; rcases Nat.lt_or_ge 20 xs.length with h | h; exact h; exact absurd ⟨rfl, h⟩ hgo)
      have hdone : Hid (∀ l', OkP l' → s.data.toList = textP l' → l' = xs) := hsp.out.done hm
      have hstop : mo = false ∨ (mo = true ∧ ¬ (xs.length : Int) ≤ 20) := by cases mo with | false => exact Or.inl rfl | true => (right; refine ⟨rfl, ?_⟩; rcases Nat.lt_or_ge 20 xs.length with h | h; omega; exact absurd ⟨rfl, h⟩ hgo)
      clear hm hgo hsp
      have ho : Hid (∃ fs, SeqOwn 3 InstrOwn wr (.slice av xs.length capv) xs fs ∧ ∀ b ∈ fs, w.heap.size ≤ b) := hgr.out.done
      rcases hstop with rfl | ⟨rfl, hx⟩
      all_goals
        go_wp2_with fail
        obtain ⟨fs, o1, o2⟩ := ho.out
        refine (specProgText_any (lo := 0) (o1.at InstrOwn_at (fun _ _ => Nat.zero_le _))).mono ?_
        rintro e w2 ⟨⟨b, ys, rfl, hans⟩, hb2⟩
        have hB2 : Hid (Below w.heap.size w w2) := hBw.out.trans (hb2.mono hBw.out.size)
        have o1' : Hid (SeqOwn 3 InstrOwn w2 (.slice av xs.length capv) xs fs) := o1.stays InstrOwn_stays (fun b q => hb2.block b (o1.lt InstrOwn_lt b q))
        have o2' : Hid (∀ b ∈ fs, w.heap.size ≤ b) := o2
        have hans' : Hid (Ans xs b ys) := hans
        clear hb2 o1 o2 hans
        by_cases htx : progT xs b = s
        · rw [htx]
          by_cases h0 : s = ⟨#[]⟩
          · have hno : Hid (ReadsP s [] false) := spec_empty h0
            subst h0
            clear htx
            go_wp2_with fail
            go_ret2
            exact ReadR.mk none 0 0 [] [] false (seqOwn_nil _) List.nodup_nil (by simp) hno.out hB2.out
          · have hyes : Hid (ReadsP s xs true) := spec_yes h0 hans'.out htx
            have g0 : (s.toList == []) = false := by have := bd_ne h0; simpa using this
            clear htx
            go_wp2_with fail
            go_ret2
            exact ReadR.mk _ _ _ xs fs true o1'.out o1'.out.nodup o2'.out hyes.out hB2.out
        · have hno : Hid (ReadsP s [] false) := spec_no hans'.out htx hdone.out
          generalize progT xs b = pt at htx ⊢
          have hne2 : (pt.toList == s.toList) = false := by simpa using bd_ne htx
          have hne3 : (!(pt.toList == s.toList)) = true := by rw [hne2]; rfl
          go_wp2_with fail
          go_ret2
          exact ReadR.mk none 0 0 [] [] false (seqOwn_nil _) List.nodup_nil (by simp) hno.out hB2.out
end Go.Proofs.YtdapgihghbmlfaaGreatDoor
