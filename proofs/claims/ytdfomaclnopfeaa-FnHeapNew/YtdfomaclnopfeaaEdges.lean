/- What things are called, and what the specification says that one holds: walked. -/
import Derived.Test.YtdfomaclnopfeaaRightGraph
import Derived.Test.YtdfomaclnopfeaaAppendInts
import Derived.Test.YtdfomaclnopfeaaHeapSmall
namespace Go.Proofs.Ytdfomaclnopfeaa
open Go.RowKit
set_option maxRecDepth 100000 in
set_option maxHeartbeats 2000000 in
theorem thingIds_any {w : World} {base : Nat} {v : Value} {ps : List ThD} (hrow : w.ownsRow base 59 1 v ps.length (ps.map fun t => .pointer (some ⟨t.blk, 0, none⟩))) (hbox : ∀ t ∈ ps, w.cell? ⟨t.blk, 0, none⟩ = some (.int .i64 t.id)) (hl : ps.length ≤ 1099511627) :
    Calls Try.prog 30 #[v] w fun e w' => (∃ v', e = .returned v' ∧ w'.ownsRow w.heap.size 2 1 v' ps.length (ps.map fun t => .int .i64 t.id)) ∧ Below w.heap.size w w' := by
  obtain ⟨iI, hiI, heI⟩ := Option.map_eq_some_iff.1 infoI64
  simp only [Prod.mk.injEq] at heI
  have hI : Hid _ := hiI
  have hE : Hid _ := heI
  clear hiI heI
  obtain ⟨av, cv, rfl⟩ := own_forms hrow
  have hrow' : Hid (w.ownsRow base 59 1 (.slice av ps.length cv) ps.length (ps.map fun t => .pointer (some ⟨t.blk, 0, none⟩))) := hrow
  have hbox' : Hid (∀ t ∈ ps, w.cell? ⟨t.blk, 0, none⟩ = some (.int .i64 t.id)) := hbox
  clear hrow hbox
  go_enter Try.func30, Try.ntmps30
  go_wp2_with fail
  go_loopw [3, 8] (fun v i wr => ∃ (j : Nat), j ≤ ps.length ∧ i = .int .i64 j ∧ Hid (wr.ownsRow w.heap.size 2 1 v j ((ps.take j).map fun t => .int .i64 t.id)) ∧ Hid (∃ a cap, v = .slice a j cap) ∧ Below w.heap.size w wr) (fun _ i _ => ps.length - (intOf i).toNat)
  case atStart => exact ⟨0, by omega, rfl, World.ownsRow_nil _ _ _ _, ⟨_, _, rfl⟩, Below.refl _ _⟩
  case round =>
    obtain ⟨j, hj, rfl, hown, hform, hb⟩ := hrel
    obtain ⟨a3, cap3, rfl⟩ := hform.out
    clear hform
    have hz := hb.size
    by_cases hlt : j < ps.length
    · obtain ⟨g, rfl, z0⟩ := row_get hrow'.out hlt (x := .pointer (some ⟨ps[j].blk, 0, none⟩)) (by simp [hlt])
      have z0 := cell_on hb z0
      have z1 := cell_on hb (hbox'.out ps[j] (List.getElem_mem hlt))
      have hstep : Hid ((ps.take (j + 1)).map (fun t => Value.int .i64 t.id) = (ps.take j).map (fun t => Value.int .i64 t.id) ++ [.int .i64 ps[j].id]) := by show _ = _; rw [List.take_succ_eq_append_getElem hlt, List.map_append]; rfl
      generalize hQ : ps[j] = Q at z0 z1 hstep
      obtain ⟨L, hL⟩ : ∃ L, ((ps.take j).map fun t => Value.int .i64 t.id) = L := ⟨_, rfl⟩
      have hownL : Hid (wr.ownsRow w.heap.size 2 1 (.slice a3 j cap3) j L) := by rw [← hL]; exact hown
      have hL' : Hid _ := hL
      clear hQ hL
      go_wp2_with (at_builtin; refine wpList_append_own _ rfl _ _ 37 rfl (w.heap.size) 2 iI (.int .i64 0) 1 8 Try.underlying37 hI.out hE.out.1 hE.out.2.2 hE.out.2.1 rfl (by decide) _ (j) (L) rfl (hownL.out.alloc _) ⟨wr.heap.size, 0, none⟩ 1 1 [.int .i64 Q.id] rfl rfl (by intro q u hq; match q, hq with | 0, hq => simp at hq; subst hq; simp [Addr.add]) (by simp [Value.oneCell']) (by unfold maxLen; omega) (by omega) (by simp; omega) ?_)
      intro v' w1 hown' hgrow _
      have hb3 : Below w.heap.size w w1 := (hb.alloc hz _).grown hgrow (by simp; omega) (own_block hownL.out)
      obtain ⟨av', capv', rfl⟩ := own_forms hown'
      have hown1 : Hid _ := hown'
      clear hown' hgrow
      go_wp2_with fail
      go_roundw
      case rel => exact ⟨j + 1, by omega, by go_num, by rw [hstep.out, hL'.out]; exact hown1.out, ⟨_, _, rfl⟩, hb3⟩
      case measure => simp [intOf]; omega
    obtain rfl : j = ps.length := by omega
    have hown2 : Hid (wr.ownsRow w.heap.size 2 1 (.slice a3 ps.length cap3) ps.length (ps.map fun t => .int .i64 t.id)) := by have q := hown.out; rw [List.take_length] at q; exact q
    clear hown
    go_wp2_with fail
    go_ret
    exact ⟨⟨_, rfl, hown2.out⟩, hb⟩
end Go.Proofs.Ytdfomaclnopfeaa
