/- WorldOk, of the specification and of the program: walked. -/
import Derived.Test.YtbodeijffpepfaaWdRecs
import Derived.Test.YtbodeijffpepfaaRtSpecTop
import Derived.Test.YtbodeijffpepfaaHeap
import Derived.Test.YtbodeijffpepfaaHeapSmall
import Derived.Deep.RegionHeld3
import Derived.Deep.DeepCutAuto
import Derived.Deep.CutBlock
namespace Go.Proofs.Ytbodeijffpepfaa
open Go.RowKit Go.Deep
/-- a text is one of a tree -/
noncomputable def readB (s : ByteArray) : Bool := @decide (∃ x, ReadsT s x true) (Classical.propDecidable _)
theorem readB_of {s : ByteArray} {x : TD} {b : Bool} (h : ReadsT s x b) : b = readB s := by
  unfold readB
  cases b with
  | true => exact (@decide_eq_true _ (Classical.propDecidable _) ⟨x, h⟩).symm
  | false => exact (@decide_eq_false _ (Classical.propDecidable _) fun ⟨y, k⟩ => by have := (ReadsT.one h k).2; cases this).symm
def orgB (n : Nat) (k : Int) : Bool := decide (0 ≤ k) && decide (k < (n : Int))
noncomputable def postB (n : Nat) (p : PostD) : Bool := readB p.vText && orgB n p.vFrom && orgB n p.vTo && !decide (p.vFrom = p.vTo)
noncomputable def worldB (x : WorldD) : Bool := inB (x.vHeaps.length : Int) 2 3 && decide (x.vPosts.length ≤ 10) && x.vHeaps.all specB && x.vPosts.all (postB x.vHeaps.length)
theorem world_no {x : WorldD} (h : inB (x.vHeaps.length : Int) 2 3 = false ∨ ¬ x.vPosts.length ≤ 10 ∨ (∃ j, ∃ hj : j < x.vHeaps.length, specB x.vHeaps[j] = false) ∨ ∃ j, ∃ hj : j < x.vPosts.length, postB x.vHeaps.length x.vPosts[j] = false) : worldB x = false := by
  cases hw : worldB x with
  | false => rfl
  | true =>
    unfold worldB at hw
    simp only [Bool.and_eq_true, List.all_eq_true, decide_eq_true_eq] at hw
    obtain ⟨⟨⟨h1, h2⟩, h3⟩, h4⟩ := hw
    rcases h with h | h | ⟨j, hj, h⟩ | ⟨j, hj, h⟩
    · rw [h1] at h; cases h
    · exact absurd h2 h
    · rw [h3 _ (List.getElem_mem hj)] at h; cases h
    · rw [h4 _ (List.getElem_mem hj)] at h; cases h
theorem world_yes {x : WorldD} (h1 : inB (x.vHeaps.length : Int) 2 3 = true) (h2 : x.vPosts.length ≤ 10) (h3 : ∀ i, (hi : i < x.vHeaps.length) → specB x.vHeaps[i] = true) (h4 : ∀ i, (hi : i < x.vPosts.length) → postB x.vHeaps.length x.vPosts[i] = true) : worldB x = true := by
  unfold worldB
  simp only [Bool.and_eq_true, List.all_eq_true, decide_eq_true_eq]
  refine ⟨⟨⟨h1, h2⟩, fun y hy => ?_⟩, fun y hy => ?_⟩
  · obtain ⟨i, hi, rfl⟩ := List.getElem_of_mem hy; exact h3 i hi
  · obtain ⟨i, hi, rfl⟩ := List.getElem_of_mem hy; exact h4 i hi
theorem originCount_any (n : Int) (w : World) : Calls Try.prog 16 #[.int .i64 n] w fun e w' => e = .returned (.bool (inB n 2 3)) ∧ w' = w := by
  by_cases h1 : 2 ≤ n <;> by_cases h2 : n ≤ 3
  all_goals
    go_enter Try.func16, Try.ntmps16
    go_wp2_with fail
    go_ret
    exact ⟨by simp [inB, h1, h2], rfl⟩
theorem isOrigin_any {w : World} {lo : Nat} {cs : List Value} {x : WorldD} {k : Int} (hx : WorldAt w lo cs x) :
    Calls Try.prog 34 #[.agg cs.toArray, .int .i64 k] w fun e w' => e = .returned (.bool (orgB x.vHeaps.length k)) ∧ Below w.heap.size w w' := by
  have hx' : Hid (WorldAt w lo cs x) := hx
  obtain ⟨k0, k1, rfl, s0, s1, _⟩ := hx
  obtain ⟨a0, c0, rfl⟩ := s0.form
  obtain ⟨a1, c1, rfl⟩ := s1.form
  clear s0 s1 hx'
  have hb : Below w.heap.size w (w.alloc (.cells (List.toArray [.slice a0 x.vHeaps.length c0, .slice a1 x.vPosts.length c1]) 31)) := (Below.refl _ _).alloc (Nat.le_refl _) _
  have q0 := (Box.new w [.slice a0 x.vHeaps.length c0, .slice a1 x.vPosts.length c1] 31).cell 0 rfl
  by_cases h1 : 0 ≤ k <;> by_cases h2 : k < (x.vHeaps.length : Int)
  all_goals
    go_enter Try.func34, Try.ntmps34
    go_wp2_with fail
    go_ret
    exact ⟨by simp [orgB, h1, h2], hb⟩
set_option maxRecDepth 100000 in
set_option maxHeartbeats 4000000 in
theorem postOk_any {w : World} {lo : Nat} {cs cp : List Value} {x : WorldD} {p : PostD} (hx : WorldAt w lo cs x) (hp : PostAt w lo cp p) (hsz0 : p.vText.size ≤ 1048576) :
    Calls Try.prog 18 #[.agg cs.toArray, .agg cp.toArray] w fun e w' => e = .returned (.bool (postB x.vHeaps.length p)) ∧ Below w.heap.size w w' := by
  have hx' : Hid (WorldAt w lo cs x) := hx
  obtain ⟨k0, k1, rfl, s0, s1, _⟩ := hx
  obtain ⟨a0, c0, rfl⟩ := s0.form
  obtain ⟨a1, c1, rfl⟩ := s1.form
  clear s0 s1
  obtain ⟨rfl, _⟩ := hp
  have hsz : Hid (p.vText.size ≤ 1048576) := hsz0
  clear hsz0
  have W1 : Below w.heap.size w (w.alloc (.cells (List.toArray [.slice a0 x.vHeaps.length c0, .slice a1 x.vPosts.length c1]) 31)) := (Below.refl _ _).alloc (Nat.le_refl _) _
  have hb : Below w.heap.size w ((w.alloc (.cells (List.toArray [.slice a0 x.vHeaps.length c0, .slice a1 x.vPosts.length c1]) 31)).alloc (.cells (List.toArray [.int .i64 p.vFrom, .int .i64 p.vTo, .string p.vText]) 45)) := W1.alloc (by simp) _
  have bW : Hid (Box ((w.alloc (.cells (List.toArray [.slice a0 x.vHeaps.length c0, .slice a1 x.vPosts.length c1]) 31)).alloc (.cells (List.toArray [.int .i64 p.vFrom, .int .i64 p.vTo, .string p.vText]) 45)) w.heap.size [.slice a0 x.vHeaps.length c0, .slice a1 x.vPosts.length c1] 31) := (Box.new w [.slice a0 x.vHeaps.length c0, .slice a1 x.vPosts.length c1] 31).alloc _
  have bP : Hid (Box ((w.alloc (.cells (List.toArray [.slice a0 x.vHeaps.length c0, .slice a1 x.vPosts.length c1]) 31)).alloc (.cells (List.toArray [.int .i64 p.vFrom, .int .i64 p.vTo, .string p.vText]) 45)) (w.heap.size + 1) [.int .i64 p.vFrom, .int .i64 p.vTo, .string p.vText] 45) := by have := Box.new (w.alloc (.cells (List.toArray [.slice a0 x.vHeaps.length c0, .slice a1 x.vPosts.length c1]) 31)) [.int .i64 p.vFrom, .int .i64 p.vTo, .string p.vText] 45; simpa [Hid] using this
  clear W1
  have p2 := bP.out.cell 2 rfl
  go_enter Try.func18, Try.ntmps18
  go_wp2_with fail
  refine (implReadTree_any hsz.out).mono ?_
  rintro e w3 ⟨ct, tx, ft, bt, rfl, hto, _, _, hrd, hb3⟩
  obtain ⟨kt, b3, l3, c3, rfl⟩ : ∃ (kt : ByteArray) (b3 : Option Addr) (l3 c3 : Nat), ct = [.string kt, .slice b3 l3 c3] := by obtain ⟨k, e, h3, _⟩ := hto.opened; obtain ⟨y1, y2, y3⟩ := h3.form; exact ⟨_, y1, _, y2, by rw [e, y3]⟩
  have hbe : Hid (bt = readB p.vText) := readB_of hrd
  have ha3 : Below w3.heap.size w3 (w3.alloc (.cells #[.string kt, .slice b3 l3 c3] 48)) := (Below.refl _ _).alloc (Nat.le_refl _) _
  have hB : Hid (Below w.heap.size w (w3.alloc (.cells #[.string kt, .slice b3 l3 c3] 48))) := (hb.trans (hb3.mono hb.size)).trans (ha3.mono (by have := hb.size; have := hb3.size; omega))
  have bW3 : Hid (Box (w3.alloc (.cells #[.string kt, .slice b3 l3 c3] 48)) w.heap.size [.slice a0 x.vHeaps.length c0, .slice a1 x.vPosts.length c1] 31) := (bW.out.below hb3 bW.out.lt).alloc _
  have bP3 : Hid (Box (w3.alloc (.cells #[.string kt, .slice b3 l3 c3] 48)) (w.heap.size + 1) [.int .i64 p.vFrom, .int .i64 p.vTo, .string p.vText] 45) := (bP.out.below hb3 bP.out.lt).alloc _
  clear p2 hto hrd hb3 ha3 hb bW bP
  cases bt
  · have hF : Hid (postB x.vHeaps.length p = false) := by show _ = _; unfold postB; rw [← hbe.out]; rfl
    go_wp2_with fail
    go_ret
    exact ⟨by rw [hF.out] <;> rfl, hB.out⟩
  go_upto_region 2 with fail
  generalize (w3.alloc (.cells #[.string kt, .slice b3 l3 c3] 48)) = w4 at hB bW3 bP3 ⊢
  have q0 := bW3.out.cell 0 rfl
  have q1 := bW3.out.cell 1 rfl
  have p0 := bP3.out.cell 0 rfl
  go_wp2_with fail
  refine (isOrigin_any (lo := lo) (WorldAt_stays _ _ _ lo _ _ (.of_below hB.out) hx'.out)).mono ?_
  rintro e w5 ⟨rfl, hb5⟩
  obtain ⟨f1, hf1⟩ : ∃ f1, orgB x.vHeaps.length p.vFrom = f1 := ⟨_, rfl⟩
  have hf1h : Hid (orgB x.vHeaps.length p.vFrom = f1) := hf1
  rw [hf1]
  have hB5 : Hid (Below w.heap.size w w5) := hB.out.trans (hb5.mono hB.out.size)
  have bW5 : Hid (Box w5 w.heap.size [.slice a0 x.vHeaps.length c0, .slice a1 x.vPosts.length c1] 31) := bW3.out.below hb5 bW3.out.lt
  have bP5 : Hid (Box w5 (w.heap.size + 1) [.int .i64 p.vFrom, .int .i64 p.vTo, .string p.vText] 45) := bP3.out.below hb5 bP3.out.lt
  clear q0 q1 p0 hf1 hb5 bW3 bP3 hB
  cases f1
  · have hF : Hid (postB x.vHeaps.length p = false) := by show _ = _; unfold postB; rw [hf1h.out, ← hbe.out]; rfl
    go_wp2_with fail
    go_ret
    exact ⟨by rw [hF.out] <;> rfl, hB5.out⟩
  have q0 := bW5.out.cell 0 rfl
  have q1 := bW5.out.cell 1 rfl
  have p1 := bP5.out.cell 1 rfl
  go_wp2_with fail
  refine (isOrigin_any (lo := lo) (WorldAt_stays _ _ _ lo _ _ (.of_below hB5.out) hx'.out)).mono ?_
  rintro e w6 ⟨rfl, hb6⟩
  obtain ⟨f2, hf2⟩ : ∃ f2, orgB x.vHeaps.length p.vTo = f2 := ⟨_, rfl⟩
  have hf2h : Hid (orgB x.vHeaps.length p.vTo = f2) := hf2
  rw [hf2]
  have hB6 : Hid (Below w.heap.size w w6) := hB5.out.trans (hb6.mono hB5.out.size)
  have bP6 : Hid (Box w6 (w.heap.size + 1) [.int .i64 p.vFrom, .int .i64 p.vTo, .string p.vText] 45) := bP5.out.below hb6 bP5.out.lt
  clear q0 q1 p1 hf2 hb6 bW5 bP5 hB5
  cases f2
  · have hF : Hid (postB x.vHeaps.length p = false) := by show _ = _; unfold postB; rw [hf1h.out, hf2h.out, ← hbe.out]; rfl
    go_wp2_with fail
    go_ret
    exact ⟨by rw [hF.out] <;> rfl, hB6.out⟩
  have p0 := bP6.out.cell 0 rfl
  have p1 := bP6.out.cell 1 rfl
  have hF : Hid (postB x.vHeaps.length p = !decide (p.vFrom = p.vTo)) := by show _ = _; unfold postB; rw [hf1h.out, hf2h.out, ← hbe.out]; rfl
  go_wp2_with fail
  go_ret
  exact ⟨by rw [hF.out]; by_cases h : p.vFrom = p.vTo <;> simp [h], hB6.out⟩
end Go.Proofs.Ytbodeijffpepfaa
