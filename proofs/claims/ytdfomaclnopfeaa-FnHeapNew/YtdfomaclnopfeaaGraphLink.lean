/- The program's links, walked. -/
import Derived.Test.YtdfomaclnopfeaaGraphMem
import Derived.WalkKit
namespace Go.Proofs.Ytdfomaclnopfeaa
open Go.RowKit
/-- a row of whole numbers that nobody turns -/
def RowK (K : Nat → Prop) (w : World) (k : Value) (ks : List Int) : Prop :=
  ∃ a cap, k = .slice a ks.length cap ∧ ks.length ≤ 1048576 ∧ (0 < ks.length → ∃ b off, a = some ⟨b, off, none⟩ ∧ K b ∧ ∀ j, (h : j < ks.length) → w.cell? ⟨b, off + j, none⟩ = some (.int .i64 ks[j]))
theorem infoPtr : ((Try.prog.info? 59).map fun i => (i.zero, i.bytes, i.size)) = some (some (.pointer none), 8, 1) := by kernel_rfl
theorem zeroPtr : ((Try.prog.info? 59).map fun i => i.zero) = some (some (.pointer none)) := by kernel_rfl
set_option maxRecDepth 100000 in
set_option maxHeartbeats 2000000 in
theorem link_any {w : World} {K : Nat → Prop} {base bm : Nat} {o p : ThD} {Ts : List ThD} {acc : List (Int × Int)} {h : HeapD} {tv po k : Value} {ks : List Int} (hA : Apart (o :: Ts)) (hT : ∀ k, (getI ThD.id Ts k).isSome = isT h k) (hG : GSt K base w o Ts acc) (hM : PMap w bm Ts) (hKm : K bm)
    (hp : p ∈ o :: Ts) (hk : RowK K w k ks) (hN : acc.length + ks.length ≤ 1099511627776) (hbase : base ≤ w.heap.size) :
    Calls Try.prog 28 #[.agg #[tv, .map (some bm), po], .pointer (some ⟨p.blk, 0, none⟩), k] w fun e w' => e = .returned (.tuple #[]) ∧ GSt K base w' o Ts (acc ++ linkA h p.id ks) ∧ KeepK K w w' := by
  obtain ⟨a, cap, rfl, hl20, hx⟩ := hk
  have hx' : Hid _ := hx
  have hA' : Hid (Apart (o :: Ts)) := hA
  have hT' : Hid _ := hT
  have hM' : Hid (PMap w bm Ts) := hM
  have hG' : Hid (GSt K base w o Ts acc) := hG
  have hp' : Hid (p ∈ o :: Ts) := hp
  have hKm' : Hid (K bm) := hKm
  have hKs : Hid (∀ b, K b → b < w.heap.size) := by obtain ⟨S, q⟩ := hG; exact q.2.2
  clear hx hA hT hM hG hp hKm
  obtain ⟨iP, hiP, heP⟩ := Option.map_eq_some_iff.1 infoPtr
  simp only [Prod.mk.injEq] at heP
  have hI : Hid _ := hiP
  have hE : Hid _ := heP
  clear hiP heP
  have hb0 : Below w.heap.size w (w.alloc (.cells #[tv, .map (some bm), po] 61)) := (Below.refl _ _).alloc (Nat.le_refl _) _
  have bG0 : Hid (Box (w.alloc (.cells #[tv, .map (some bm), po] 61)) w.heap.size [tv, .map (some bm), po] 61) := Box.new w _ _
  have hG1 : Hid (GSt (fun b => K b ∨ b = w.heap.size) base (w.alloc (.cells #[tv, .map (some bm), po] 61)) o Ts acc) := hG'.out.more hb0 (fun b q => by rcases q with q | q; exact Or.inl q; exact Or.inr (by omega)) (fun b q => by rcases q with q | q; have := hKs.out b q; simp; omega; simp; omega)
  go_enter Try.func28, Try.ntmps28
  go_wp2_with fail
  go_loopw [12] (fun i wr => ∃ (j : Nat), j ≤ ks.length ∧ i = .int .i64 j ∧ Hid (GSt (fun b => K b ∨ b = w.heap.size) base wr o Ts (acc ++ linkA h p.id (ks.take j))) ∧ Hid (KeepK (fun b => K b ∨ b = w.heap.size) (w.alloc (.cells #[tv, .map (some bm), po] 61)) wr)) (fun i _ => ks.length - (intOf i).toNat)
  case atStart => exact ⟨0, by omega, rfl, by simpa [linkA] using hG1, KeepK.refl _ _⟩
  case round =>
    obtain ⟨j, hj, rfl, hGr, hKr⟩ := hrel
    have hsz : w.heap.size + 1 ≤ wr.heap.size := by have := hKr.out.2.2.2.1; simpa using this
    by_cases hlt : j < ks.length
    · obtain ⟨b, off, rfl, hKb, hc⟩ := hx'.out (by omega)
      have z0 : wr.cell? ⟨b, off + j, none⟩ = some (.int .i64 ks[j]) := by
        rw [World.cell?_of_block (hKr.out.2.2.2.2 b (Or.inl hKb))]
        exact cell_on hb0 (hc j hlt)
      have bG : Box wr w.heap.size [tv, .map (some bm), po] 61 := (hKr.out.2.2.2.2 _ (Or.inr rfl)).trans bG0.out
      have t1 := bG.cell 1 rfl
      have hMr : PMap wr bm Ts := hM'.out.keep ((hKr.out.2.2.2.2 bm (Or.inl hKm'.out)).trans (hb0.block bm hM'.out.lt))
      have hstep : Hid _ := linkA_step h p.id ks j hlt
      have hTk : Hid _ := hT'.out ks[j]
      have hal : Hid ((acc ++ linkA h p.id (ks.take j)).length ≤ acc.length + j) := by show _ ≤ _; have := linkA_len h p.id (ks.take j); simp at this ⊢; omega
      generalize hQ : ks[j] = Q at z0 hstep hTk
      clear hQ bG hc
      rcases run_lookP hMr Try.underlying58 zeroPtr Q with ⟨hg, hlook⟩ | ⟨t, hg, hlook⟩
      · have hno : Hid (isT h Q = false) := by show _ = _; rw [← hTk.out, hg]; rfl
        clear hg hMr
        go_wp2_with fail
        go_roundw
        case rel => exact ⟨j + 1, by omega, by go_num, by rw [hstep.out, hno.out]; simpa using hGr, hKr⟩
        case measure => simp [intOf]; omega
      · have hyes : Hid (isT h Q = true) := by show _ = _; rw [← hTk.out, hg]; rfl
        obtain ⟨htm, htid⟩ := get_mem Ts t hg
        have htm' : Hid (t ∈ Ts) := htm
        have htid' : Hid (t.id = Q) := htid
        obtain ⟨S, hS⟩ := hGr.out
        generalize hac : acc ++ linkA h p.id (ks.take j) = ac at *
        have hac' : Hid _ := hac
        have hS1 : Hid (GStS S (fun b => K b ∨ b = w.heap.size) base (wr.alloc (.cells #[.pointer (some ⟨t.blk, 0, none⟩)] 59)) o Ts ac) := hS.below ((Below.refl _ _).alloc (Nat.le_refl _) _)
        obtain ⟨hp1, hp2, _⟩ := hS.1 p hp'.out
        obtain ⟨hq1, hq2, _⟩ := hS1.out.1 p hp'.out
        obtain ⟨aS, capS, hform⟩ := own_forms hp2
        have hform' : Hid (S p.id = .slice aS (holdsC ac p.id).length capS) := hform
        have c2 := hp1.cell 2 rfl
        have c2' := hq1.cell 2 rfl
        rw [hform] at c2 c2' hq2
        have hq2' : Hid _ := hq2
        have hlen : Hid ((holdsC ac p.id).length ≤ ac.length) := holdsC_len ac p.id
        have hhb : Hid _ := heldC_le ac t.id
        have hwrap : IntKind.i64.wrap (heldC ac t.id + 1) = heldC ac t.id + 1 := by
          have h1 := hhb.out
          have h2 := hal.out
          rw [IntKind.wrap_i64]; omega
        clear hg hMr htm htid hac hform hp1 hp2 hq1 hq2 hS
        go_wp2_with (at_builtin; refine wpList_append_lies _ rfl _ _ 57 rfl base 59 iP (.pointer none) 1 8 Try.underlying57 hI.out hE.out.1 hE.out.2.2 hE.out.2.1 rfl (by decide) _ (holdsC ac p.id).length ((holdsC ac p.id).map (ptrOf Ts)) rfl hq2'.out ⟨wr.heap.size, 0, none⟩ 1 1 [.pointer (some ⟨t.blk, 0, none⟩)] rfl rfl (by intro q u hq; match q, hq with | 0, hq => simp at hq; subst hq; simp [Addr.add]) (by simp [Value.oneCell']) (by decide) ?c3 ?c4 ?c5 (wr.heap.size + 1) (by simp) ?_)
        case c3 => have := hlen.out; have := hal.out; unfold maxLen; omega
        case c4 => have := hlen.out; have := hal.out; omega
        case c5 => omega
        intro g capg w1 hown1 hgrow1 hat1 hlt1
        have hgrow1' : (wr.alloc (.cells #[.pointer (some ⟨t.blk, 0, none⟩)] 59)).grownBy w1 (S p.id).ownBlock := by rw [hform'.out]; exact hgrow1
        obtain ⟨d1, d2, d3, d4⟩ := hS1.out.cells hA'.out hp'.out htm'.out hgrow1' (.slice (some ⟨g, 0, none⟩) ((holdsC ac p.id).length + 1) capg)
        have hat2 : (S p.id).ownBlock = some g ∨ (wr.alloc (.cells #[.pointer (some ⟨t.blk, 0, none⟩)] 59)).heap.size ≤ g := by
          rcases hat1 with e | e
          · left; rw [hform'.out]; exact e
          · right; rw [e]; simp
        have hL : Hid (GSt (fun b => K b ∨ b = w.heap.size) base ((w1.setCell ⟨p.blk, 2, none⟩ (.slice (some ⟨g, 0, none⟩) ((holdsC ac p.id).length + 1) capg)).setCell ⟨t.blk, 3, none⟩ (.int .i64 (heldC ac t.id + 1))) o Ts (ac ++ [(p.id, t.id)])) := hS1.out.link1 hA'.out hp'.out htm'.out rfl hown1 hgrow1' hat2
        have hK1 : Hid _ := (((hKr.out.trans (KeepK.of_below ((Below.refl _ _).alloc (Nat.le_refl _) (.cells #[.pointer (some ⟨t.blk, 0, none⟩)] 59)) (fun b q => by obtain ⟨S0, q0⟩ := hGr.out; exact q0.2.2 b q))).grown hgrow1' hS1.out.2.2 (hS1.out.1 p hp'.out).2.2.2).set (i := 2) (hS1.out.1 p hp'.out).2.2.1 (.slice (some ⟨g, 0, none⟩) ((holdsC ac p.id).length + 1) capg)).set (i := 3) (hS1.out.1 t (List.mem_cons_of_mem _ htm'.out)).2.2.1 (.int .i64 (heldC ac t.id + 1))
        clear hown1 hgrow1 hgrow1' hat1 hat2
        rw [hform'.out] at d1
        go_wp2_with fail
        go_roundw
        case rel => exact ⟨j + 1, by omega, by go_num, by rw [hstep.out, hyes.out, if_pos rfl, ← List.append_assoc, hac'.out, ← htid'.out]; exact hL, hK1.out⟩
        case measure => simp [intOf]; omega
    · obtain rfl : j = ks.length := by omega
      go_wp2_with fail
      go_end0
      refine ⟨rfl, ?_, ?_⟩
      · have := hGr.out
        rw [List.take_length] at this
        exact this.less (fun b q => Or.inl q)
      · exact (KeepK.of_below hb0 hKs.out).trans (hKr.out.mono (fun b q => Or.inl q))
end Go.Proofs.Ytdfomaclnopfeaa
