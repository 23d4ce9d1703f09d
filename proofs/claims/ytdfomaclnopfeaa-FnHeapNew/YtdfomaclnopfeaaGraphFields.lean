/- The program's links of one, and of fields, walked. -/
import Derived.Test.YtdfomaclnopfeaaGraphLink
namespace Go.Proofs.Ytdfomaclnopfeaa
open Go.RowKit
theorem linkA_append (h : HeapD) (p : Int) (a b : List Int) : linkA h p (a ++ b) = linkA h p a ++ linkA h p b := by simp [linkA, List.filter_append]
theorem link_one {w : World} {B : Nat} (hB : w.heap.size = B) {K : Nat → Prop} {base bm : Nat} {o p : ThD} {Ts : List ThD} {acc : List (Int × Int)} {h : HeapD} {tv po : Value} {n : Int} (hA : Apart (o :: Ts)) (hT : ∀ k, (getI ThD.id Ts k).isSome = isT h k) (hG : GSt K base w o Ts acc) (hM : PMap w bm Ts) (hKm : K bm)
    (hp : p ∈ o :: Ts) (hN : acc.length + 1 ≤ 1099511627776) (hbase : base ≤ w.heap.size) :
    Calls Try.prog 28 #[.agg #[tv, .map (some bm), po], .pointer (some ⟨p.blk, 0, none⟩), .slice (some ⟨B, 0, none⟩) 1 1] (w.alloc (.cells #[.int .i64 n] 2)) fun e w' => e = .returned (.tuple #[]) ∧ GSt K base w' o Ts (acc ++ linkA h p.id [n]) ∧ KeepK K w w' := by
  subst hB
  have hKs : ∀ b, K b → b < w.heap.size := by obtain ⟨S, q⟩ := hG; exact q.2.2
  have hb0 : Below w.heap.size w (w.alloc (.cells #[.int .i64 n] 2)) := (Below.refl _ _).alloc (Nat.le_refl _) _
  have hG1 : GSt (fun b => K b ∨ b = w.heap.size) base (w.alloc (.cells #[.int .i64 n] 2)) o Ts acc := hG.more hb0 (fun b q => by rcases q with q | q; exact Or.inl q; exact Or.inr (by omega)) (fun b q => by rcases q with q | q; have := hKs b q; simp; omega; simp; omega)
  have hrow : RowK (fun b => K b ∨ b = w.heap.size) (w.alloc (.cells #[.int .i64 n] 2)) (.slice (some ⟨w.heap.size, 0, none⟩) 1 1) [n] := ⟨_, _, rfl, by simp, fun _ => ⟨w.heap.size, 0, rfl, Or.inr rfl, fun j hj => by
    obtain rfl : j = 0 := by simpa using hj
    exact (Box.new w [.int .i64 n] 2).cell 0 rfl⟩⟩
  refine (link_any (tv := tv) (po := po) hA hT hG1 (hM.keep (hb0.block bm hM.lt)) (Or.inl hKm) hp hrow (by simpa using hN) (by simp; omega)).mono ?_
  rintro e w' ⟨he, h1, h2⟩
  exact ⟨he, h1.less (fun b q => Or.inl q), (KeepK.of_below hb0 hKs).trans (h2.mono (fun b q => Or.inl q))⟩
set_option maxRecDepth 100000 in
set_option maxHeartbeats 2000000 in
theorem linkFields_any {w0 w : World} {K : Nat → Prop} {base lo bm : Nat} {o p : ThD} {Ts : List ThD} {acc : List (Int × Int)} {h : HeapD} {tv po k : Value} {xs : List FieldD} (hA : Apart (o :: Ts)) (hT : ∀ k, (getI ThD.id Ts k).isSome = isT h k) (hG : GSt K base w o Ts acc) (hM : PMap w bm Ts) (hKm : K bm)
    (hp : p ∈ o :: Ts) (hk : SeqAt 2 FieldAt w0 lo k xs) (h00 : ∀ b, b < w0.heap.size → w.heap[b]? = w0.heap[b]?) (hK0 : ∀ b, b < w0.heap.size → K b) (hl : xs.length ≤ 1048576) (hN : acc.length + xs.length ≤ 1099511627776) (hbase : base ≤ w.heap.size) (htv : ∃ a n c, tv = .slice a n c) (hpo : ∃ a, po = .pointer a) :
    Calls Try.prog 29 #[.agg #[tv, .map (some bm), po], .pointer (some ⟨p.blk, 0, none⟩), k] w fun e w' => e = .returned (.tuple #[]) ∧ GSt K base w' o Ts (acc ++ linkA h p.id (xs.map FieldD.vObj)) ∧ KeepK K w w' := by
  obtain ⟨a, cap, rfl, hm, hx⟩ := hk
  obtain ⟨ta, tn, tc, rfl⟩ := htv
  obtain ⟨pa, rfl⟩ := hpo
  have hx' : Hid _ := hx
  have hA' : Hid (Apart (o :: Ts)) := hA
  have hT' : Hid (∀ k, (getI ThD.id Ts k).isSome = isT h k) := hT
  have hM' : Hid (PMap w bm Ts) := hM
  have hG' : Hid (GSt K base w o Ts acc) := hG
  have hp' : Hid (p ∈ o :: Ts) := hp
  have hKm' : Hid (K bm) := hKm
  have h00' : Hid (∀ b, b < w0.heap.size → w.heap[b]? = w0.heap[b]?) := h00
  have hK0' : Hid (∀ b, b < w0.heap.size → K b) := hK0
  have hKs : Hid (∀ b, K b → b < w.heap.size) := by obtain ⟨S, q⟩ := hG; exact q.2.2
  clear hx hA hT hM hG hp hKm h00 hK0
  have hb0 : Below w.heap.size w (w.alloc (.cells #[.slice ta tn tc, .map (some bm), .pointer pa] 61)) := (Below.refl _ _).alloc (Nat.le_refl _) _
  have bG0 : Hid (Box (w.alloc (.cells #[.slice ta tn tc, .map (some bm), .pointer pa] 61)) w.heap.size [.slice ta tn tc, .map (some bm), .pointer pa] 61) := Box.new w _ _
  have hG1 : Hid (GSt (fun b => K b ∨ b = w.heap.size) base (w.alloc (.cells #[.slice ta tn tc, .map (some bm), .pointer pa] 61)) o Ts acc) := hG'.out.more hb0 (fun b q => by rcases q with q | q; exact Or.inl q; exact Or.inr (by omega)) (fun b q => by rcases q with q | q; have := hKs.out b q; simp; omega; simp; omega)
  go_enter Try.func29, Try.ntmps29
  go_wp2_with fail
  go_loopw [10] (fun i wr => ∃ (j : Nat), j ≤ xs.length ∧ i = .int .i64 j ∧ Hid (GSt (fun b => K b ∨ b = w.heap.size) base wr o Ts (acc ++ linkA h p.id ((xs.take j).map FieldD.vObj))) ∧ Hid (KeepK (fun b => K b ∨ b = w.heap.size) (w.alloc (.cells #[.slice ta tn tc, .map (some bm), .pointer pa] 61)) wr)) (fun i _ => xs.length - (intOf i).toNat)
  case atStart => exact ⟨0, by omega, rfl, by simpa [linkA] using hG1, KeepK.refl _ _⟩
  case round =>
    obtain ⟨j, hj, rfl, hGr, hKr⟩ := hrel
    have hsz : w.heap.size + 1 ≤ wr.heap.size := by have := hKr.out.2.2.2.1; simpa using this
    by_cases hlt : j < xs.length
    · obtain ⟨b, off, rfl, hlo, hbw, hc⟩ := hx'.out (by omega)
      obtain ⟨cs, hcl, lie, hr⟩ := hc j hlt
      have hblk : wr.heap[b]? = w0.heap[b]? := (hKr.out.2.2.2.2 b (Or.inl (hK0'.out b hbw))).trans ((hb0.block b (hKs.out b (hK0'.out b hbw))).trans (h00'.out b hbw))
      have lie1 : Lie wr b (off + j * 2) cs := fun m hm => by rw [World.cell?_of_block (w := w0) (w' := wr) hblk]; exact lie m hm
      have bG : Box wr w.heap.size [.slice ta tn tc, .map (some bm), .pointer pa] 61 := (hKr.out.2.2.2.2 _ (Or.inr rfl)).trans bG0.out
      have hMr : Hid (PMap wr bm Ts) := hM'.out.keep ((hKr.out.2.2.2.2 bm (Or.inl hKm'.out)).trans (hb0.block bm hM'.out.lt))
      have hstep : Hid ((xs.take (j + 1)).map FieldD.vObj = (xs.take j).map FieldD.vObj ++ [xs[j].vObj]) := by show _ = _; rw [List.take_succ_eq_append_getElem hlt, List.map_append]; rfl
      have hal : Hid ((acc ++ linkA h p.id ((xs.take j).map FieldD.vObj)).length ≤ acc.length + j) := by show _ ≤ _; have := linkA_len h p.id ((xs.take j).map FieldD.vObj); simp at this ⊢; omega
      generalize hQ : xs[j] = Q at hr hstep
      obtain ⟨rfl, _⟩ := hr
      have z0 := lie_at lie1 0 rfl
      have z1 := lie_at lie1 1 rfl
      simp only [Nat.add_zero] at z0
      have hbf : Below wr.heap.size wr (wr.alloc (.cells #[.string Q.vName, .int .i64 Q.vObj] 73)) := (Below.refl _ _).alloc (Nat.le_refl _) _
      have bG2 := bG.alloc (.cells #[.string Q.vName, .int .i64 Q.vObj] 73)
      have bF2 := Box.new wr [.string Q.vName, .int .i64 Q.vObj] 73
      have g0 := bG2.cell 0 rfl
      have g1 := bG2.cell 1 rfl
      have g2 := bG2.cell 2 rfl
      have f1 := bF2.cell 1 rfl
      have hG2 : Hid (GSt (fun b => K b ∨ b = w.heap.size) base (wr.alloc (.cells #[.string Q.vName, .int .i64 Q.vObj] 73)) o Ts (acc ++ linkA h p.id ((xs.take j).map FieldD.vObj))) := hGr.out.below hbf
      clear hQ bG bG2 bF2 hc lie lie1 hcl
      go_wp2_with fail
      refine (link_one (B := wr.heap.size + 1) (by simp) (h := h) (tv := .slice ta tn tc) (po := .pointer pa) hA'.out hT'.out hG2.out (hMr.out.keep (hbf.block bm hMr.out.lt)) (Or.inl hKm'.out) hp'.out (by have := hal.out; omega) (by simp; omega)).mono ?_
      rintro e w1 ⟨rfl, hL, hKL⟩
      have hL' : Hid _ := hL
      have hKL' : Hid _ := (hKr.out.trans (KeepK.of_below hbf (fun b q => by obtain ⟨S0, q0⟩ := hGr.out; exact q0.2.2 b q))).trans hKL
      clear hL hKL
      go_wp2_with fail
      go_roundw
      case rel => exact ⟨j + 1, by omega, by go_num, by rw [hstep.out, linkA_append, ← List.append_assoc]; exact hL', hKL'.out⟩
      case measure => simp [intOf]; omega
    · obtain rfl : j = xs.length := by omega
      go_wp2_with fail
      go_end0
      refine ⟨rfl, ?_, ?_⟩
      · have := hGr.out
        rw [List.take_length] at this
        exact GSt.less this (fun b q => Or.inl q)
      · exact (KeepK.of_below hb0 hKs.out).trans (hKr.out.mono (fun b q => Or.inl q))
end Go.Proofs.Ytdfomaclnopfeaa
