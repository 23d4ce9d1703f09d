/- What the program's matchers return. -/
import Derived.Test.YtgmgbjeejlkdmaaMatchPlain
import Derived.Test.YtgmgbjeejlkdmaaSelWalks
import Derived.Test.YtgmgbjeejlkdmaaWayImpl
import Derived.Deep.QuietTactic
import Derived.BigQuiet
import Derived.Laws.Cover1
namespace Go.Proofs.Ytgmgbjeejlkdmaa
open Go.RowKit
/-- the tag of one on a way -/
def TagA (_ : World) (_ : Nat) (cs : List Value) (s : ByteArray) : Prop := ∃ k, cs = [.string s, k]
set_option maxHeartbeats 1000000 in
theorem hasTag_any (s : ByteArray) (w : World) :
    Calls Try.prog 53 #[.string s] w fun e w' => e = .returned (.func (.func 59) #[] #[.pointer (some ⟨w.heap.size, 0, none⟩)]) ∧ w' = w.alloc (.cells #[.string s] 9) := by
  go_enter Try.func53, Try.ntmps53
  go_wp2_with fail
  go_ret
  exact ⟨rfl, rfl⟩
theorem isAny_is {s : ByteArray} {v : Bool} (h : decide (s = ⟨#[]⟩) = v) (w : World) : Calls Try.prog 52 #[.string s] w fun e w' => e = .returned (.bool v) ∧ w' = w := by
  rw [← h]; exact isAny_any s w
theorem eq_list {a b : ByteArray} (h : ¬ a = b) : ¬ a.toList = b.toList := by
  intro e
  rw [ByteArray.toList_eq, ByteArray.toList_eq] at e
  apply h
  cases a; cases b
  simp at e
  rw [e]
set_option maxHeartbeats 2000000 in
theorem hasTag1_any {w : World} {lo g : Nat} {s : ByteArray} {kw : Value} {tags : List ByteArray} {p : Nat} (hg : Box w g [.string s] 9) (hk : SeqAt 2 TagA w lo kw tags) (hp : tags.length = p + 1) :
    Calls Try.prog 59 #[kw, .pointer (some ⟨g, 0, none⟩)] w fun e w' => e = .returned (.bool (decide (s = ⟨#[]⟩) || decide (tags[p]'(by omega) = s))) ∧ ∃ m, w' = w.drewN m := by
  obtain ⟨a, cap, rfl, hm, hx⟩ := hk
  obtain ⟨b, off, rfl, hlo, hbb, hc⟩ := hx (by omega)
  obtain ⟨cs, hcl, lie, k, rfl⟩ := hc p (by omega)
  have z0 := lie 0 (by simp)
  simp only [List.getElem?_cons_zero, Nat.add_zero] at z0
  have c0 := hg.cell 0 rfl
  generalize tags[p]'(by omega) = tg at z0
  have hlp : (p : Int) < (tags.length : Int) := by omega
  have hp0 : (0 : Int) ≤ (p : Int) := by omega
  unfold maxLen at hm
  have hwr : IntKind.i64.wrap ((tags.length : Int) - 1) = (p : Int) := by rw [IntKind.wrap_i64]; omega
  clear hx hc lie hcl hg hp hm
  by_cases he : s = ⟨#[]⟩
  · have hde : Hid (decide (s = ⟨#[]⟩) = true) := by show _ = _; simp [he]
    clear he
    go_enter Try.func59, Try.ntmps59
    go_wp2_with fail
    go_quiet (first | (go_at_call 52; refine Calls.quiet_of_same (isAny_is hde.out _)))
    go_wp2_with fail
    go_ret
    exact ⟨by rw [hde.out]; rfl, _, rfl⟩
  · have hde : Hid (decide (s = ⟨#[]⟩) = false) := by show _ = _; simp [he]
    clear he
    by_cases hq : tg = s
    · subst hq
      go_enter Try.func59, Try.ntmps59
      go_wp2_with fail
      go_quiet (first | (go_at_call 52; refine Calls.quiet_of_same (isAny_is hde.out _)))
      go_wp2_with fail
      go_ret
      exact ⟨ret_bool (by simp), _, rfl⟩
    · have hq' : Hid (¬ tg = s) := hq
      have h1 := eq_list hq
      clear hq
      go_enter Try.func59, Try.ntmps59
      go_wp2_with fail
      go_quiet (first | (go_at_call 52; refine Calls.quiet_of_same (isAny_is hde.out _)))
      go_wp2_with fail
      go_ret
      exact ⟨ret_bool (by rw [hde.out, decide_eq_false hq'.out]; simpa using h1), _, rfl⟩
theorem run_cut {a : Option Addr} {n cap j : Nat} (h : j ≤ cap) : ∀ W : World, Sem.run Try.prog (Instr.sliceAt 24 (.slice a n cap) none (some (.int .i64 (j : Int))) none) W = .ok (.slice a j cap) W := fun W => by
  have e : sliced a 0 j cap 2 = .slice a j cap := by
    unfold sliced
    cases a <;> simp [Addr.add]
  rw [← e]
  simp [Instr.sliceAt, Instr.slice, run_underlying Try.underlying24, Instr.sliceBounds, run_sliceBound, sliced, Try.sizeOf26, Result.andThen, h]
theorem tagA_stays : Stays TagA := fun _ _ _ _ _ _ _ h => h
/-- a function that asks for a tag -/
def TagF (w : World) (v : Value) (s : ByteArray) : Prop := ∃ g, v = .func (.func 59) #[] #[.pointer (some ⟨g, 0, none⟩)] ∧ Box w g [.string s] 9
/-- a function that asks for the steps as far as the n-th -/
def IsM (st : Nat → StepD) (w : World) : Nat → Value → Prop
  | 0, v => TagF w v (st 0).vTag
  | n + 1, v => ∃ g1 g2 g3 vo va, v = .func (.func 60) #[] #[.pointer (some ⟨g1, 0, none⟩), .pointer (some ⟨g2, 0, none⟩), .pointer (some ⟨g3, 0, none⟩)] ∧ Box w g1 [vo] 65 ∧ Box w g2 [va] 65 ∧ Box w g3 [.string (st (n + 1)).vTag, .bool (st (n + 1)).vDeep] 49 ∧ TagF w vo (st (n + 1)).vTag ∧ IsM st w n va
theorem TagF.below {w w' : World} {v : Value} {s : ByteArray} (h : TagF w v s) (hb : Below w.heap.size w w') : TagF w' v s := by
  obtain ⟨g, e, b⟩ := h
  exact ⟨g, e, b.below hb b.lt⟩
theorem IsM.below {st : Nat → StepD} {w w' : World} (hb : Below w.heap.size w w') : ∀ {n : Nat} {v : Value}, IsM st w n v → IsM st w' n v := by
  intro n
  induction n with
  | zero => intro v h; exact TagF.below h hb
  | succ n ih =>
    intro v h
    obtain ⟨g1, g2, g3, vo, va, e, b1, b2, b3, h1, h2⟩ := h
    exact ⟨g1, g2, g3, vo, va, e, b1.below hb b1.lt, b2.below hb b2.lt, b3.below hb b3.lt, h1.below hb, ih h2⟩
/-- called with a way it tells so -/
def AppV (v kw : Value) (w : World) (r : Bool) : Prop := ∀ f caps, v = .func (.func f) #[] caps → Calls Try.prog f (#[kw] ++ caps) w fun e w' => e = .returned (.bool r) ∧ ∃ m, w' = w.drewN m
def MC (st : Nat → StepD) (tg : Nat → ByteArray) (n : Nat) : Prop := ∀ (w : World) (kw v : Value) (lo : Nat) (tags : List ByteArray) (p : Nat), IsM st w n v → SeqAt 2 TagA w lo kw tags → tags.length = p + 1 → (∀ i, (h : i < tags.length) → tags[i] = tg i) → AppV v kw w (mB st tg n p)
theorem mC_zero (st : Nat → StepD) (tg : Nat → ByteArray) : MC st tg 0 := by
  intro w kw v lo tags p hv hk hp htg f caps e
  obtain ⟨g, e2, b⟩ := hv
  rw [e2] at e
  injection e with e3 _ e4
  injection e3 with e3
  subst e3 e4
  have := hasTag1_any (p := p) b hk hp
  rw [htg p (by omega)] at this
  exact this
end Go.Proofs.Ytgmgbjeejlkdmaa
