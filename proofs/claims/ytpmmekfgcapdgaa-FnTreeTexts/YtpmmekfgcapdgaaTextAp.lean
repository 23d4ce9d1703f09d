/- appendTree of the program, walked. -/
import Derived.Test.YtpmmekfgcapdgaaTextImpl
namespace Go.Proofs.Ytpmmekfgcapdgaa
open Go.RowKit
def ApT {H : Type} (n : Nat) : Prop := ∀ (w0 w : World) (lo : Nat) (v t k : Value) (d : DataW H) (l : List UInt8), TreeAt w0 lo n t k d → Below w0.heap.size w0 w → OwnB w w0.heap.size v l → l.length + (textD n d).length ≤ 1048576 →
  Calls Try.prog 20 #[v, .agg #[t, k]] w fun e w' => ∃ v', e = .returned v' ∧ OwnB w' w0.heap.size v' (l ++ textD n d) ∧ Goes w v w' v'
/-- the box that the call laid is as it was -/
theorem box_kept {w wr : World} {v vj : Value} {t k : Value} {T : TypeId} {base : Nat} {l : List UInt8} (ho : OwnB w base v l) (h : Goes (w.alloc (.cells #[t, k] T)) v wr vj) :
    wr.cell? ⟨w.heap.size, 0, none⟩ = some t ∧ wr.cell? ⟨w.heap.size, 1, none⟩ = some k := by
  have e : wr.heap[w.heap.size]? = some (.cells #[t, k] T) := by
    refine (h.1.block w.heap.size (by simp) ?_).trans (MapKept.heap_alloc w _).1
    intro hh
    have := ho.lt hh.symm
    omega
  exact ⟨by rw [blk_cell e]; rfl, by rw [blk_cell e]; rfl⟩
set_option maxHeartbeats 400000 in
theorem apT_of {H : Type} (n : Nat) (h26 : ApT (H := H) n) : ApT (H := H) (n + 1) := by
  intro w0 w lo v t k d l ht hbw ho hlen
  obtain ⟨⟨s, rfl, hs, htag⟩, hrow⟩ := ht
  obtain ⟨a, cap, rfl, hm, hx⟩ := hrow
  have hx' : Hid _ := hx
  unfold maxLen at hm
  have h26' : Hid (ApT (H := H) n) := h26
  have htag' : Hid _ := htag
  have hts : (tagOf d).length = s.size := by rw [htag]; simp
  have hL := textD_length n d
  have hd1 : ¬ 9223372036854775807 < 1 + s.size := by omega
  have hd2 : ¬ 9223372036854775807 < 1 + s.size + 1 := by omega
  have hd3 : ¬ 9223372036854775807 < 2 + s.size := by omega
  have hd4 : ¬ 9223372036854775807 < 2 + s.size + 1 := by omega
  have hlen' : Hid (l.length + (2 * s.size + 5 + (textK (textD n) (kidsOf d)).length) ≤ 1048576) := by show _ ≤ _; omega
  have ho' : Hid _ := ho
  have hbw' : Hid _ := hbw
  have hbz : w0.heap.size ≤ w.heap.size := hbw.size
  clear hs h26 hx htag hL hts hlen ho hbw
  go_enter Try.func20, Try.ntmps20
  go_wp2_with (at_builtin; refine wpList_append_at rfl _ _ rfl w0.heap.size v l _ rfl rfl (ho'.out.alloc _) ?c1 ?c2 ?c3 ?_)
  case c1 => rw [ba_size, ba_size]; exact Nat.succ_pos _
  case c2 =>
    have := hlen'.out
    rw [ba_size, ba_size]
    show l.length + (1 + s.size + 1) ≤ 1048576
    omega
  case c3 => simp; omega
  intro v1 w1 ho1 hg1
  have e1 : l ++ 60 :: (s.data.toList ++ [62]) = l ++ headT d := by rw [headT, htag'.out]; simp
  rw [e1] at ho1
  clear e1
  have ho1' : Hid _ := ho1
  have hg1' : Hid _ := hg1
  obtain ⟨c0, c1⟩ := box_kept ho'.out hg1
  clear ho1 hg1
  go_wp2_with fail
  go_loopw [0, 16] (fun z i wr => ∃ (j : Nat), j ≤ (kidsOf d).length ∧ i = .int .i64 j ∧ Hid (OwnB wr w0.heap.size z (l ++ headT d ++ textK (textD n) ((kidsOf d).take j))) ∧ Hid (Goes (w.alloc (.cells #[.string s, .slice a (kidsOf d).length cap] 26)) v wr z)) (fun _ i _ => (kidsOf d).length - (intOf i).toNat)
  case atStart => exact ⟨0, by omega, rfl, by show OwnB _ _ _ _; rw [List.take_zero, textK, List.append_nil]; exact ho1'.out, hg1'⟩
  case round =>
    obtain ⟨j, hj, rfl, hoj, hgj⟩ := hrel
    obtain ⟨c0, c1⟩ := box_kept ho'.out hgj.out
    have hbj : Below w0.heap.size w0 wr := Goes.below hgj.out (hbw'.out.alloc hbz _) (ho'.out.alloc _)
    have hl := hlen'.out
    have hhl := headT_length d
    have hts : (tagOf d).length = s.size := by rw [htag'.out]; simp
    by_cases hlt : j < (kidsOf d).length
    · obtain ⟨b, off, rfl, hlo, hbb, hc⟩ := hx'.out (by omega)
      obtain ⟨t', k', c3, c4, ht⟩ := hc j hlt
      have q1 : wr.cell? ⟨b, off + j * 2, none⟩ = some t' := (hbj.cell (p := ⟨b, off + j * 2, none⟩) hbb).trans c3
      have q2 : wr.cell? ⟨b, off + j * 2 + 1, none⟩ = some k' := (hbj.cell (p := ⟨b, off + j * 2 + 1, none⟩) hbb).trans c4
      obtain ⟨⟨s1, rfl⟩, a1, cap1, rfl⟩ := ht.form
      have ht' : Hid (TreeAt w0 lo n _ _ (nth (kidsOf d) j)) := ht
      have hkl := textK_kid_le (textD n) (kidsOf d) j hlt
      have hbd : Hid ((l ++ headT d ++ textK (textD n) ((kidsOf d).take j)).length + (textD n (nth (kidsOf d) j)).length ≤ 1048576) := by show _ ≤ _; simp only [List.length_append]; omega
      have hbz1 : w0.heap.size ≤ wr.heap.size := hbj.size
      have hbj' : Hid _ := hbj
      clear hc c3 c4 ht hx' hkl hl hhl hts hbj
      go_wp2_with fail
      refine (h26'.out w0 _ lo _ _ _ (nth (kidsOf d) j) _ ht'.out (hbj'.out.alloc hbz1 _) (hoj.out.alloc _) hbd.out).mono ?_
      rintro e w2 ⟨v2, rfl, ho2, hg2⟩
      have ho2' : Hid _ := ho2
      have hg2' : Hid _ := hg2
      clear ho2 hg2 q1 q2 c0 c1
      go_wp2_with fail
      go_roundw
      case rel => exact ⟨j + 1, by omega, by go_num, by show OwnB _ _ _ _; rw [textK_take _ _ _ hlt, ← List.append_assoc]; exact ho2'.out, (hgj.out.alloc _).trans hg2'.out⟩
      case measure => simp [intOf]; omega
    · have hka := textK_take_all (textD n) (kidsOf d) j hlt
      rw [hka] at hoj
      have hbd : Hid ((l ++ headT d ++ textK (textD n) (kidsOf d)).length + (2 + s.size + 1) ≤ 1048576) := by show _ ≤ _; simp only [List.length_append]; omega
      have hbz1 : w0.heap.size ≤ wr.heap.size := hbj.size
      clear hka hl hhl hts hbj
      go_wp2_with (at_builtin; refine wpList_append_at rfl _ _ rfl w0.heap.size _ (l ++ headT d ++ textK (textD n) (kidsOf d)) _ rfl rfl hoj.out ?c1 ?c2 hbz1 ?_)
      case c1 => rw [ba_size, ba_size]; exact Nat.succ_pos _
      case c2 =>
        have := hbd.out
        rw [ba_size, ba_size]
        exact this
      intro v2 w2 ho2 hg2
      have ho2' : Hid _ := ho2
      have hg2' : Hid _ := hg2
      clear ho2 hg2
      go_wp2_with fail
      go_ret
      refine ⟨_, rfl, ?_, ((Goes.refl w v).alloc _).trans (hgj.out.trans hg2'.out)⟩
      have e2 : l ++ textD (n + 1) d = l ++ (headT d ++ (textK (textD n) (kidsOf d) ++ 60 :: 47 :: (s.data.toList ++ [62]))) := by rw [textD, footT, htag'.out]; simp
      rw [e2]
      exact ho2'.out
theorem apT_all {H : Type} : ∀ n, ApT (H := H) n := by
  intro n
  induction n with
  | zero => exact fun _ _ _ _ _ _ _ _ h _ _ _ => h.elim
  | succ n ih => exact apT_of n ih
end Go.Proofs.Ytpmmekfgcapdgaa
