/- pathTo of the program, walked. -/
import Derived.Test.YtfncmndgdomjiaaListCopy
namespace Go.Proofs.Ytfncmndgdomjiaa
open Go.RowKit
set_option maxHeartbeats 1000000 in
theorem pathTo_any {w : World} {lo : Nat} {k : Value} {p : List Int} {i : Int} (hk : SeqAt 1 IntAt w lo k p) (hl : p.length ≤ 1048576) (hi : InI i) :
    Calls Try.prog 64 #[k, .int .i64 i] w fun e w' => (∃ v, e = .returned v ∧ AnsI w w' v (p ++ [i])) ∧ Below w.heap.size w w' := by
  obtain ⟨iT, hiT0, heT0, heT1, heT2⟩ := info_parts2 infoI
  have hiT : Hid (Try.prog.info? 2 = some iT) := hiT0
  have heT : Hid (iT.zero = some (.int .i64 0) ∧ iT.size = 1 ∧ iT.bytes = 8) := ⟨heT0, heT1, heT2⟩
  have hk' : Hid (SeqAt 1 IntAt w lo k p) := hk
  obtain ⟨a, cap, rfl⟩ := hk.form
  have hi' : Hid (InI i) := hi
  clear hiT0 heT0 heT1 heT2 hk hi
  go_enter Try.func64, Try.ntmps64
  go_wp2_with fail
  refine (listCopyI_row hk'.out hl).mono ?_
  rintro e w1 ⟨⟨v, rfl, hown, hin⟩, hb1⟩
  have hown' : Hid (w1.ownsRow w.heap.size 2 1 v p.length (p.map fun n => Value.int .i64 n)) := hown
  have hin' : Hid (∀ x ∈ p, InI x) := hin
  have hb1' : Hid (Below w.heap.size w w1) := hb1
  have hz1 := hb1.size
  clear hown hin hb1
  have hrow : Hid ((w1.alloc (.cells #[.int .i64 i] 2)).ownsRow w.heap.size 2 1 v p.length (p.map fun n => Value.int .i64 n)) := row_below hown'.out ((Below.refl _ _).alloc (Nat.le_refl _) _)
  go_wp2_with (at_builtin; refine wpList_append_own _ rfl _ _ 25 rfl w.heap.size 2 iT _ 1 8 Try.underlying25 hiT.out heT.out.1 heT.out.2.1 heT.out.2.2 rfl (by decide) _ p.length (p.map fun n => Value.int .i64 n) rfl hrow.out ⟨w1.heap.size, 0, none⟩ 1 1 [.int .i64 i] rfl rfl (by intro q u hq; match q, hq with | 0, hq => (simp at hq; subst hq; simp [Addr.add]) | q + 1, hq => simp at hq) (by intro u hu; simp at hu; subst hu; rfl) (by unfold maxLen; omega) (by omega) (by simp; omega) ?_; intro v2 w2 hown2 hgrow2 hnil2)
  have hown2' : Hid (w2.ownsRow w.heap.size 2 1 v2 (p.length + 1) ((p.map fun n => Value.int .i64 n) ++ [.int .i64 i])) := hown2
  have hb2 : Hid (Below w.heap.size w w2) := (hb1'.out.alloc hb1'.out.size _).grown hgrow2 (by simp; omega) (fun k e => own_block2 hown'.out k e)
  clear hown2 hgrow2 hnil2
  go_ret
  have ho : w2.ownsRow w.heap.size 2 1 v2 (p ++ [i]).length ((p ++ [i]).map fun n => Value.int .i64 n) := by
    have := hown2'.out
    rw [List.length_append, List.map_append]
    exact this
  obtain ⟨fs, hs, hlo2⟩ := seqOwn_of_row ho (fun x hx => by rcases List.mem_append.1 hx with q | q; (exact hin'.out x q); (simp at q; subst q; exact hi'.out))
  exact ⟨⟨_, rfl, fs, hs, hs.nodup, hlo2⟩, hb2.out⟩
end Go.Proofs.Ytfncmndgdomjiaa
