/- nodeAt of the program: walked. -/
import Derived.Test.YtndffcogddefiaaEdZoom
import Derived.Test.YtndffcogddefiaaWayImpl
import Derived.Test.YtndffcogddefiaaGrowOwn
namespace Go.Proofs.Ytndffcogddefiaa
open Go.RowKit
/-- what nodeAt answers: where the node lies, or nothing -/
def NodeR (w : World) (b o : Nat) (d : TD) (path : List Int) (e : Ending) : Prop :=
  (okP d path = true ∧ ∃ b' o', e = .returned (.pointer (some ⟨b', o', none⟩)) ∧ LocP w b o path b' o') ∨ (okP d path = false ∧ e = .returned (.pointer none))
theorem NodeR.yes {w : World} {b o b' o' : Nat} {d : TD} {path : List Int} (h : okP d path = true) (hl : LocP w b o path b' o') : NodeR w b o d path (.returned (.pointer (some ⟨b', o', none⟩))) := Or.inl ⟨h, b', o', rfl, hl⟩
theorem NodeR.no {w : World} {b o : Nat} {d : TD} {path : List Int} (h : okP d path = false) : NodeR w b o d path (.returned (.pointer none)) := Or.inr ⟨h, rfl⟩
set_option maxRecDepth 100000 in
set_option maxHeartbeats 4000000 in
theorem nodeAt_any {w : World} {n b o lo : Nat} {C : Array Value} {T : TypeId} {cs : List Value} {d : TD} {fs : List Nat} {kp : Value} {path : List Int} (hrow : RowIs w b o C T cs) (hl : cs.length = 2) (ht : TreeO n w cs d fs) (hnd : fs.Nodup) (hb : b ∉ fs) (hp : SeqAt 1 IntAt w lo kp path) :
    Calls Try.prog 74 #[.pointer (some ⟨b, o, none⟩), kp] w fun e w' => NodeR w b o d path e ∧ Below w.heap.size w w' := by
  obtain ⟨ap, cp, rfl, hm, hx⟩ := hp
  unfold maxLen at hm
  have hx' : Hid (0 < path.length → ∃ b off, ap = some ⟨b, off, none⟩ ∧ lo ≤ b ∧ b < w.heap.size ∧ ∀ i, (h : i < path.length) → ∃ cs, cs.length = 1 ∧ Lie w b (off + i * 1) cs ∧ IntAt w lo cs path[i]) := hx
  have hz : Hid (∀ q : List Int, okP d q = true → ∃ (b' o' n' : Nat) (C' : Array Value) (T' : TypeId) (cs' : List Value) (fs' : List Nat), RowIs w b' o' C' T' cs' ∧ TreeO n' w cs' (endP d q) fs' ∧ LocP w b o q b' o') := fun q hq => by
    obtain ⟨b', o', n', C', T', cs', fs', z1, _, z3, _, _, _, _, _, z9, _⟩ := zoom q n w b o C T cs d fs hrow hl ht hnd hb hq
    exact ⟨b', o', n', C', T', cs', fs', z1, z3, z9⟩
  clear hx hrow hl ht hnd hb
  go_enter Try.func74, Try.ntmps74
  go_wp2_with fail
  go_loopw [5, 11] (fun v i wr => ∃ (j bj oj : Nat), j ≤ path.length ∧ v = .pointer (some ⟨bj, oj, none⟩) ∧ i = .int .i64 j ∧ Hid (okP d (path.take j) = true) ∧ Hid (LocP w b o (path.take j) bj oj) ∧ Hid (Below w.heap.size w wr)) (fun _ i _ => path.length - (intOf i).toNat)
  case atStart => exact ⟨0, b, o, by omega, rfl, rfl, rfl, ⟨rfl, rfl⟩, Below.refl _ _⟩
  case round =>
    obtain ⟨j, bj, oj, hj, rfl, rfl, hok, hloc, hB⟩ := hrel
    by_cases hlt : j < path.length
    · obtain ⟨bp, op, rfl, hlo, hbp, hc⟩ := hx'.out (by omega)
      obtain ⟨cs1, _, lie, hr⟩ := hc j hlt
      have lie1 := Lie.keep (lo := lo) (lo' := lo) lie (.of_below hB.out) hlo hbp
      have hstep : Hid (okP d (path.take (j + 1)) = (okP d (path.take j) && inB (endP d (path.take j)) path[j])) := okP_step hlt
      have htk : Hid (path.take (j + 1) = path.take j ++ [path[j]]) := List.take_succ_eq_append_getElem hlt
      generalize path[j] = P at hr hstep htk
      obtain ⟨rfl, hPI⟩ := hr
      have x0 := lie1 0 (by simp)
      simp only [List.getElem?_cons_zero, Nat.add_zero, Nat.mul_one] at x0
      obtain ⟨b2, o2, n2, C2, T2, cs2, fs2, z1, z3, z9⟩ := hz.out (path.take j) hok.out
      obtain ⟨rfl, rfl⟩ := LocP.one _ z9 hloc.out
      generalize endP d (path.take j) = D at hstep z3
      obtain ⟨k1, rfl, hseq, _⟩ := z3.opened
      obtain ⟨a2, c2, rfl⟩ := hseq.form
      have r9 := z1.below hB.out
      have n0 := r9.cell 0 rfl
      have n1 := r9.cell 1 rfl
      simp only [Nat.add_zero] at n0
      have n1w : Hid (w.cell? ⟨b2, o2 + 1, none⟩ = some (.slice a2 (kidsOf D).length c2)) := z1.cell 1 rfl
      have hseq' : Hid (SeqOwn 2 (TreeO (n2 - 1)) w (.slice a2 (kidsOf D).length c2) (kidsOf D) fs2) := hseq
      have hlt' : (j : Int) < (path.length : Int) := by omega
      have h0' : (0 : Int) ≤ (j : Int) := by omega
      have hlen : Hid ((kidsOf D).length ≤ maxLen) := by obtain ⟨_, _, _, q, _⟩ := hseq; exact q.1
      clear hseq z3 lie lie1 hc
      go_wp2_with fail
      refine (hasKid_any _ _ _ _ _ _).mono ?_
      rintro e w1 ⟨rfl, hb1⟩
      have hB1 : Hid (Below w.heap.size w w1) := hB.out.trans (hb1.mono hB.out.size)
      have r1 := r9.below hb1
      have m0 := r1.cell 0 rfl
      have m1 := r1.cell 1 rfl
      simp only [Nat.add_zero] at m0
      clear hb1 r9 n0 n1 x0
      by_cases hin : inB D P = true
      · have hin2 : 0 ≤ P ∧ P < ((kidsOf D).length : Int) := by simpa [inB] using hin
        obtain ⟨hp0, hp1⟩ := hin2
        rw [decide_eq_true hp0, decide_eq_true hp1]
        obtain ⟨k, rfl⟩ := Int.eq_ofNat_of_zero_le hp0
        have hok1 : Hid (okP d (path.take (j + 1)) = true) := by show _ = _; rw [hstep.out, hok.out, hin]; rfl
        obtain ⟨a', c', e', hm', hx2⟩ := hseq'.out
        injection e' with e1 _ e3
        subst e1 e3
        rcases hx2 with ⟨h0, _⟩ | ⟨b1, off, rfl, _⟩
        · omega
        have hloc1 : Hid (LocP w b o (path.take (j + 1)) b1 (off + k * 2)) := by
          show LocP _ _ _ _ _ _
          rw [htk.out]
          have := LocP.snoc (p := (k : Int)) (path.take j) hloc.out n1w.out
          simpa using this
        clear hin hm' hstep htk z9 hseq' n1w
        go_wp2_with fail
        go_roundw
        case rel => exact ⟨j + 1, b1, off + k * 2, by omega, rfl, by go_num, hok1, hloc1, hB1⟩
        case measure => simp [intOf]; omega
      · have hdec : (decide (0 ≤ P) && decide (P < ((kidsOf D).length : Int))) = false := by
          have : inB D P = false := by simpa using hin
          exact this
        have hno : Hid (okP d path = false) := okP_take_false (j + 1) (by rw [hstep.out, hok.out]; simpa using hin)
        rw [hdec]
        clear hdec hin hstep htk
        go_wp2_with fail
        go_ret
        exact ⟨NodeR.no hno.out, hB1.out⟩
    · have he : path.take j = path := List.take_of_length_le (by omega)
      have hok' : Hid (okP d path = true) := by have := hok.out; rwa [he] at this
      have hloc' : Hid (LocP w b o path bj oj) := by have := hloc.out; rwa [he] at this
      clear he
      go_wp2_with fail
      go_ret
      exact ⟨NodeR.yes hok'.out hloc'.out, hB.out⟩
end Go.Proofs.Ytndffcogddefiaa
