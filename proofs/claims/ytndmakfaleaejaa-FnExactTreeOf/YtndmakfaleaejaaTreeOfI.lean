/- The program's tree of a node, walked. -/
import Derived.Test.YtndmakfaleaejaaTreeH
import Derived.Test.YtndmakfaleaejaaGrowOwn
import Derived.Test.YtndmakfaleaejaaContains
namespace Go.Proofs.Ytndmakfaleaejaa
open Go.RowKit
theorem infoTree : ((Try.prog.info? 45).map fun i => (i.zero, i.size, i.bytes)) = some (some (.agg #[.string ByteArray.empty, .slice none 0 0]), 2, 40) := by kernel_rfl
/-- the element under a key, the same in every world with that map -/
theorem look_elem {w0 : World} {lo : Nat} {h : HeapD} {es : Array MapEntry} {clock bn : Nat} (h2 : Ents NodeD.vId NodeAt w0 lo es.toList h.vNodes) {id : Int} {x : NodeD} (hx : nodeAt h id = some x) :
    ∃ v : NodeV, v.id = id ∧ NodeAt w0 lo v.cells x ∧ ∀ w : World, w.heap[bn]? = some (.map es clock) → (Instr.lookup 60 (.map (some bn)) (.int .i64 id) false).run Try.prog w = .ok (.agg #[.int .i64 v.id, .string v.tag, .int .i64 v.parent, .slice v.p3 v.n3 v.c3, .int .i64 v.wr, .slice v.p5 v.n5 v.c5]) w := by
  rcases find_ents (id := id) es.toList h.vNodes 0 h2 with ⟨g1, _⟩ | ⟨x', i', cs, g1, g2, g3⟩
  · have hx' : getI NodeD.vId h.vNodes id = some x := hx
    rw [hx'] at g1; cases g1
  · have hx' : getI NodeD.vId h.vNodes id = some x := hx
    rw [hx'] at g1
    injection g1 with g1
    subst g1
    have hid := (get_mem _ _ hx').2
    obtain ⟨k3, k5, rfl, s3, s5, r⟩ := g3
    obtain ⟨a3, c3, rfl⟩ := s3.form
    obtain ⟨a5, c5, rfl⟩ := s5.form
    refine ⟨⟨x.vId, x.vTag, x.vParent, a3, x.vKids.length, c3, x.vWrapper, a5, x.vListeners.length, c5⟩, hid, ⟨_, _, rfl, s3, s5, r⟩, fun w h1 => ?_⟩
    have hc : ∀ e, (Instr.checkKey e 10000 2 (.int .i64 id)).run Try.prog w = .ok () w := fun e => MapKept.run_checkKey (k := .int .i64 id) Try.underlying2 (by simp [MapKept.IsKey]) e 9999
    simp [Instr.lookup, run_underlying Try.underlying60, MapKept.run_getObj_map h1, hc, MapKept.run_findKey Try.underlying2 g2, Result.andThen]
def TreeI (w0 : World) (lo bn bo : Nat) (h : HeapD) (n : Nat) : Prop := ∀ (id : Int) (x : NodeD) (v : NodeV) (w : World), nodeAt h id = some x → lvl h id = n → NodeAt w0 lo v.cells x → MapIn w0 w lo bn h → Below w0.heap.size w0 w →
    Calls Try.prog 48 #[.agg #[.map (some bn), .map (some bo)], .agg #[.int .i64 v.id, .string v.tag, .int .i64 v.parent, .slice v.p3 v.n3 v.c3, .int .i64 v.wr, .slice v.p5 v.n5 v.c5]] w fun e w' => (∃ cs fs, e = .returned (.agg cs.toArray) ∧ TreeOwn n w' cs (treeH h n id) fs ∧ fs.Nodup ∧ ∀ b ∈ fs, w.heap.size ≤ b) ∧ Below w.heap.size w w'
set_option maxRecDepth 100000 in
set_option maxHeartbeats 4000000 in
theorem treeI_step {w0 : World} {lo bn bo : Nat} {h : HeapD} (hs : specB h = true) (hkk : ∀ id x, nodeAt h id = some x → x.vKids.length ≤ 1048576) {n : Nat} (ih0 : TreeI w0 lo bn bo h n) : TreeI w0 lo bn bo h (n + 1) := by
  intro id x v w hx hl hv hM hB
  have ih : Hid (TreeI w0 lo bn bo h n) := ih0
  have hM' : Hid (MapIn w0 w lo bn h) := hM
  have hB' : Hid (Below w0.heap.size w0 w) := hB
  have hs' : Hid (specB h = true) := hs
  have hx' : Hid (nodeAt h id = some x) := hx
  have hl' : Hid (lvl h id = n + 1) := hl
  obtain ⟨k3, k5, hcells, s3, s5, rId, rTag, _⟩ := hv
  obtain ⟨vid, vtag, vpar, p3, n3, c3, vwr, p5, n5, c5⟩ := v
  simp only [NodeV.cells, List.cons.injEq, Value.string.injEq, and_true] at hcells
  obtain ⟨q1, e0, q2, e3, q4, q5⟩ := hcells
  clear q1 q2 q4 q5
  subst e3
  obtain ⟨a3', cap3', ek, hm3, hx3⟩ := s3
  injection ek with ek1 ek2 ek3
  subst ek1 ek2 ek3
  have hkb : x.vKids.length ≤ 1048576 := hkk id x hx
  have rTag' : Hid (vtag.size ≤ maxLen) := by show _ ≤ _; rw [e0]; exact rTag
  have e0' : Hid (vtag = x.vTag) := e0
  have hx3' : Hid _ := hx3
  clear hm3
  obtain ⟨iT, hiT0, heT0, heT1, heT2⟩ := info_parts infoTree
  have hiT : Hid (Try.prog.info? 45 = some iT) := hiT0
  have heT : Hid (iT.zero = some (.agg #[.string ByteArray.empty, .slice none 0 0]) ∧ iT.size = 2 ∧ iT.bytes = 40) := ⟨heT0, heT1, heT2⟩
  clear ih0 hM hB hs hx hl s5 rId rTag hx3 e0 hiT0 heT0 heT1 heT2
  have hb4 : Below w.heap.size w ((((w.alloc (.cells #[.map (some bn), .map (some bo)] 63)).alloc (.cells #[.int .i64 vid, .string vtag, .int .i64 vpar, .slice p3 x.vKids.length c3, .int .i64 vwr, .slice p5 n5 c5] 81)).alloc (.cells #[.string ⟨#[]⟩, .slice none 0 0] 45)).alloc (.cells #[.string vtag, .slice none 0 0] 45)) := by
    (repeat refine Below.alloc ?_ (by simp <;> omega) _)
    exact Below.refl _ _
  have hz4 : ((((w.alloc (.cells #[.map (some bn), .map (some bo)] 63)).alloc (.cells #[.int .i64 vid, .string vtag, .int .i64 vpar, .slice p3 x.vKids.length c3, .int .i64 vwr, .slice p5 n5 c5] 81)).alloc (.cells #[.string ⟨#[]⟩, .slice none 0 0] 45)).alloc (.cells #[.string vtag, .slice none 0 0] 45)).heap.size = w.heap.size + 4 := by simp
  have bX0 : Hid (Box ((((w.alloc (.cells #[.map (some bn), .map (some bo)] 63)).alloc (.cells #[.int .i64 vid, .string vtag, .int .i64 vpar, .slice p3 x.vKids.length c3, .int .i64 vwr, .slice p5 n5 c5] 81)).alloc (.cells #[.string ⟨#[]⟩, .slice none 0 0] 45)).alloc (.cells #[.string vtag, .slice none 0 0] 45)) (w.heap.size) [.map (some bn), .map (some bo)] 63) := (((Box.new w [.map (some bn), .map (some bo)] 63).alloc _).alloc _).alloc _
  have bT0 : Hid (Box ((((w.alloc (.cells #[.map (some bn), .map (some bo)] 63)).alloc (.cells #[.int .i64 vid, .string vtag, .int .i64 vpar, .slice p3 x.vKids.length c3, .int .i64 vwr, .slice p5 n5 c5] 81)).alloc (.cells #[.string ⟨#[]⟩, .slice none 0 0] 45)).alloc (.cells #[.string vtag, .slice none 0 0] 45)) (w.heap.size + 1 + 1 + 1) [.string vtag, .slice none 0 0] 45) := by
    have q := Box.new (((w.alloc (.cells #[.map (some bn), .map (some bo)] 63)).alloc (.cells #[.int .i64 vid, .string vtag, .int .i64 vpar, .slice p3 x.vKids.length c3, .int .i64 vwr, .slice p5 n5 c5] 81)).alloc (.cells #[.string ⟨#[]⟩, .slice none 0 0] 45)) [.string vtag, .slice none 0 0] 45
    simpa only [World.size_alloc, Hid] using q
  have bR0 : Hid (Box ((((w.alloc (.cells #[.map (some bn), .map (some bo)] 63)).alloc (.cells #[.int .i64 vid, .string vtag, .int .i64 vpar, .slice p3 x.vKids.length c3, .int .i64 vwr, .slice p5 n5 c5] 81)).alloc (.cells #[.string ⟨#[]⟩, .slice none 0 0] 45)).alloc (.cells #[.string vtag, .slice none 0 0] 45)) (w.heap.size + 1 + 1) [.string ⟨#[]⟩, .slice none 0 0] 45) := by
    have q := (Box.new ((w.alloc (.cells #[.map (some bn), .map (some bo)] 63)).alloc (.cells #[.int .i64 vid, .string vtag, .int .i64 vpar, .slice p3 x.vKids.length c3, .int .i64 vwr, .slice p5 n5 c5] 81)) [.string ⟨#[]⟩, .slice none 0 0] 45).alloc (.cells #[.string vtag, .slice none 0 0] 45)
    simpa only [World.size_alloc, Hid] using q
  go_enter Try.func48, Try.ntmps48
  go_wp2_with fail
  go_loopw [14] (fun i wr => ∃ (j : Nat) (vv : Value) (bss : List (List Nat)) (css : List (List Value)), j ≤ x.vKids.length ∧ i = .int .i64 j ∧ Hid (GrowOwn 45 2 (TreeOwn n) (w.heap.size + 1 + 1 + 1 + 1) wr vv ((x.vKids.take j).map (treeH h n)) bss css) ∧ Hid (Box wr (w.heap.size + 1 + 1 + 1) [.string vtag, vv] 45) ∧ Below (w.heap.size + 1 + 1 + 1) ((((w.alloc (.cells #[.map (some bn), .map (some bo)] 63)).alloc (.cells #[.int .i64 vid, .string vtag, .int .i64 vpar, .slice p3 x.vKids.length c3, .int .i64 vwr, .slice p5 n5 c5] 81)).alloc (.cells #[.string ⟨#[]⟩, .slice none 0 0] 45)).alloc (.cells #[.string vtag, .slice none 0 0] 45)) wr) (fun i _ => x.vKids.length - (intOf i).toNat)
  case atStart => exact ⟨0, _, [], [], by omega, rfl, GrowOwn.nil, bT0, Below.refl _ _⟩
  case round =>
    obtain ⟨j, vv, bss, css, hj, rfl, hgr, bTr, hbr⟩ := hrel
    have hsr : w.heap.size + 4 ≤ wr.heap.size := by have := bTr.out.lt; omega
    have hbw : Below w.heap.size w wr := hb4.trans (hbr.mono (by omega))
    have bXr : Hid (Box wr (w.heap.size) [.map (some bn), .map (some bo)] 63) := bX0.out.below hbr (by omega)
    have bRr : Hid (Box wr (w.heap.size + 1 + 1) [.string ⟨#[]⟩, .slice none 0 0] 45) := bR0.out.below hbr (by omega)
    have hlen : ((x.vKids.take j).map (treeH h n)).length = j := by simp; omega
    have hlenj : Hid (((x.vKids.take j).map (treeH h n)).length = j) := hlen
    obtain ⟨av, capv, hvv⟩ := own_forms hgr.out.2.2.2.1
    rw [hlen] at hvv
    subst hvv
    by_cases hlt : j < x.vKids.length
    · obtain ⟨b, off, hp3, hlo, hbw0, hc⟩ := hx3'.out (by omega)
      obtain ⟨cs, hcl, lie, hr⟩ := hc j (by omega)
      have hbw00 : Below w0.heap.size w0 wr := hB'.out.trans (hbw.mono hB'.out.size)
      have lie1 := Lie.keep (lo := lo) (lo' := lo) lie (.of_below hbw00) hlo hbw0
      obtain ⟨y, hy1, hy2⟩ := kids_there hs'.out hx'.out x.vKids[j] (List.getElem_mem _)
      have hyat : Hid (nodeAt h x.vKids[j] = some y) := hy1
      have hlv : Hid (lvl h x.vKids[j] = n) := by
        show _ = _
        have q1 := lvl_kid hs'.out hy1 hy2
        have q2 := hl'.out
        omega
      have hnpos : 0 < n := by have := lvl_pos h x.vKids[j]; have := hlv.out; omega
      have htk : Hid (x.vKids.take (j + 1) = x.vKids.take j ++ [x.vKids[j]]) := List.take_succ_eq_append_getElem (by omega)
      obtain ⟨es, clock, hmap, hents⟩ := hM'.out
      have hbn : bn < w.heap.size := (Array.getElem?_eq_some_iff.1 hmap).1
      have hmr : wr.heap[bn]? = some (.map es clock) := (hbw.block bn hbn).trans hmap
      have hbnr : bn < wr.heap.size := by omega
      obtain ⟨u, hu1, hu2, hu3⟩ := look_elem (clock := clock) (bn := bn) hents hy1
      have hlk : Hid (∀ w : World, w.heap[bn]? = some (.map es clock) → (Instr.lookup 60 (.map (some bn)) (.int .i64 x.vKids[j]) false).run Try.prog w = .ok (.agg #[.int .i64 u.id, .string u.tag, .int .i64 u.parent, .slice u.p3 u.n3 u.c3, .int .i64 u.wr, .slice u.p5 u.n5 u.c5]) w) := hu3
      have hu : Hid (NodeAt w0 lo u.cells y) := hu2
      generalize hQ0 : x.vKids[j] = Q at hr hyat hlv htk hlk
      obtain ⟨rfl, hI⟩ := hr
      have z0 := lie_at lie1 0 rfl
      simp only [Nat.add_zero, Nat.mul_one] at z0
      have hmw : Hid (Below w.heap.size w wr ∧ Below w0.heap.size w0 wr ∧ MapIn w0 wr lo bn h) := ⟨hbw, hbw00, es, clock, hmr, hents⟩
      have hgr' : Hid (GrowOwn 45 2 (TreeOwn n) (w.heap.size + 1 + 1 + 1 + 1) wr (.slice av j capv) ((x.vKids.take j).map (treeH h n)) bss css) := hgr.out
      have cX0 := bXr.out.cell 0 rfl
      have cX1 := bXr.out.cell 1 rfl
      have hlt' : (j : Int) < (x.vKids.length : Int) := by omega
      have hj0 : (0 : Int) ≤ (j : Int) := by omega
      clear lie lie1 hcl hc hx3' hy1 hy2 hu1 hu2 hu3 hents hmap hQ0 hlen
      subst hp3
      go_wp2_with fail
      refine wp_region_held_drew (S := fun w' => w'.cell? ⟨w.heap.size, 0, none⟩ = some (.map (some bn)) ∧ w'.cell? ⟨w.heap.size, 1, none⟩ = some (.map (some bo)) ∧ w'.heap[bn]? = some (.map es clock)) (by kernel_rfl) ⟨cX0, cX1, hmr⟩ (fun hHeld => ?_)
      refine take_lit (i := 0) (d := 18) (v := ?_) rfl rfl (by kernel_rfl) (by kernel_rfl) (by kernel_rfl) (fun _ _ _ h => h) (Or.inl ⟨by rfl, ?_⟩) (by assumption) ?_
      rotate_left
      · (intro w hSw; (try dsimp only at hSw); first | (go_simp; done) | (go_simp; with_reducible rfl))
      simp only [List.set_cons_zero, List.set_cons_succ]
      refine take_lit (i := 2) (d := 20) (v := ?_) rfl rfl (by kernel_rfl) (by kernel_rfl) (by kernel_rfl) (fun _ _ _ h => h) (Or.inl ⟨by rfl, ?_⟩) (by assumption) ?_
      rotate_left
      · (intro w hSw; (try dsimp only at hSw); first | (go_simp; done) | (go_simp; with_reducible rfl))
      simp only [List.set_cons_zero, List.set_cons_succ]
      refine take_lit (i := 3) (d := 21) (v := ?_) rfl rfl (by kernel_rfl) (by kernel_rfl) (by kernel_rfl) (fun _ _ _ h => h) (Or.inl ⟨by rfl, ?_⟩) (by assumption) ?_
      rotate_left
      · (intro w hSw; (try dsimp only at hSw); first | (go_simp; done) | (go_simp; with_reducible rfl))
      simp only [List.set_cons_zero, List.set_cons_succ]
      refine take_lit (i := 4) (d := 22) (v := ?_) rfl rfl (by kernel_rfl) (by kernel_rfl) (by kernel_rfl) (fun _ _ _ h => h) (Or.inl ⟨by rfl, ?_⟩) (by assumption) ?_
      rotate_left
      · (intro w hSw; (try dsimp only at hSw); first | (go_simp; done) | (go_simp; with_reducible rfl))
      simp only [List.set_cons_zero, List.set_cons_succ]
      refine take_lit (i := 5) (d := 23) (v := ?_) rfl rfl (by kernel_rfl) (by kernel_rfl) (by kernel_rfl) (fun _ _ _ h => h) (Or.inl ⟨by rfl, ?_⟩) (by assumption) ?_
      rotate_left
      · (intro w hSw; (try dsimp only at hSw); first | (go_simp; done) | (go_simp; with_reducible rfl))
      simp only [List.set_cons_zero, List.set_cons_succ]
      refine take_lit (i := 6) (d := 24) (v := .agg #[.int .i64 u.id, .string u.tag, .int .i64 u.parent, .slice u.p3 u.n3 u.c3, .int .i64 u.wr, .slice u.p5 u.n5 u.c5]) rfl rfl (by kernel_rfl) (by kernel_rfl) (by kernel_rfl) (fun _ _ _ h => h) (Or.inl ⟨by rfl, ?_⟩) (by assumption) ?_
      · (intro w' hSw; (try dsimp only at hSw); have hr := hlk.out w' hSw.2.2; go_simp)
      simp only [List.set_cons_zero, List.set_cons_succ]
      refine wpAnyH_ready (rs := [1, 7]) (by kernel_rfl) (by simp) ?_
      refine (AllReadyH.cons rfl (fun K hK => ?_) (AllReadyH.cons rfl (fun K hK => ?_) AllReadyH.nil))
      · have cT : wr.drew.cell? ⟨w.heap.size + 1 + 1 + 1, 1, none⟩ = some (.slice av j capv) := bTr.out.cell 1 rfl
        go_simp
        clear cT
        refine hK.out _ _ hHeld (fun hHeld => ?_)
        clear hK K
        refine wpAnyH_ready (rs := [7]) (by kernel_rfl) (by simp) ?_
        refine AllReadyH.cons rfl (fun K hK => ?_) AllReadyH.nil
        go_simp
        refine (ih.out Q y u wr.drew hyat.out hlv.out hu.out (by exact hmw.out.2.2) (hmw.out.2.1.drew)).mono ?_
        rintro e w1 ⟨⟨cs1, fs1, rfl, ho1, nd1, lo1⟩, hb1⟩
        have hb1' : Hid (Below wr.heap.size wr w1) := undrew hb1
        have hi1 : Hid (∀ b ∈ fs1, b < w1.heap.size) := TreeOwn_lt _ _ _ _ _ ho1
        have lo1' : Hid (∀ b ∈ fs1, wr.heap.size ≤ b) := fun b q => by have := lo1 b q; simpa using this
        have ho1' : Hid (TreeOwn n w1 cs1 (treeH h n Q) fs1) := ho1
        obtain ⟨ct, kk, hcs⟩ : ∃ (ct : ByteArray) (kk : Value), cs1 = [.string ct, kk] := by obtain ⟨m, hm⟩ : ∃ m, n = m + 1 := ⟨n - 1, by omega⟩; subst hm; obtain ⟨k1, _, e, _⟩ := ho1; exact ⟨_, k1, e⟩
        subst hcs
        obtain ⟨ak, nk, ck, rfl⟩ : ∃ ak nk ck, kk = .slice ak nk ck := by obtain ⟨m, hm⟩ : ∃ m, n = m + 1 := ⟨n - 1, by omega⟩; subst hm; obtain ⟨k1, f1, e, hs1, _⟩ := ho1; injection e with _ e; injection e with e _; obtain ⟨a, c, hk⟩ := hs1.form; exact ⟨a, _, c, by rw [e, hk]⟩
        have bT1 : Hid (Box w1 (w.heap.size + 1 + 1 + 1) [.string vtag, .slice av j capv] 45) := bTr.out.below hb1'.out bTr.out.lt
        clear ho1 lo1
        refine hK.out _ _ ⟨cell_on hb1 hHeld.1, cell_on hb1 hHeld.2.1, (hb1.block bn hbnr).trans hHeld.2.2⟩ (fun hHeld => ?_)
        clear hK K
        refine wpAnyH_ready (rs := [8]) (by kernel_rfl) (by simp) ?_
        refine AllReadyH.cons rfl (fun K hK => ?_) AllReadyH.nil
        have bT2 : Hid (Box (w1.alloc (.cells #[.string ct, .slice ak nk ck] 45)) (w.heap.size + 1 + 1 + 1) [.string vtag, .slice av j capv] 45) := bT1.out.alloc _
        go_simp
        refine hK.out _ _ ⟨(cell_on ((Below.refl _ _).alloc (Nat.le_refl _) _) hHeld.1), (cell_on ((Below.refl _ _).alloc (Nat.le_refl _) _) hHeld.2.1), (Below.heap_alloc _ _ _ (Array.getElem?_eq_some_iff.1 hHeld.2.2).1).trans hHeld.2.2⟩ (fun hHeld => ?_)
        clear hK K
        refine wpAnyH_ready (rs := [9]) (by kernel_rfl) (by simp) ?_
        refine AllReadyH.cons rfl (fun K hK => ?_) AllReadyH.nil
        refine step_append_lies (w1.alloc (.cells #[.string ct, .slice ak nk ck] 45)) rfl _ _ 43 rfl (w.heap.size + 1 + 1 + 1 + 1) 45 iT _ 2 40 Try.underlying43 hiT.out heT.out.1 heT.out.2.1 heT.out.2.2 rfl (by decide) (.slice av j capv) j css.flatten rfl (by have := row_below hgr'.out.2.2.2.1 (hb1'.out.alloc hb1'.out.size (.cells #[.string ct, .slice ak nk ck] 45)); rw [hlenj.out] at this; exact this) ⟨w1.heap.size, 0, none⟩ 1 1 [.string ct, .slice ak nk ck] rfl rfl (by intro i u hu; match i, hu with | 0, hu => (simp at hu; subst hu; simp [Addr.add]) | 1, hu => (simp at hu; subst hu; simp [Addr.add]) | i + 2, hu => simp at hu) (by intro u hu; simp at hu; rcases hu with rfl | rfl <;> rfl) (by omega) (by unfold maxLen; omega) (by omega) (by have := hb1'.out.size; simp; omega) _ rfl ?_
        intro g capg w3 hown3 hgrow3 hat3 hlt3
        have hb3 : Hid (Below (w.heap.size + 1 + 1 + 1 + 1) (w1.alloc (.cells #[.string ct, .slice ak nk ck] 45)) w3) := (Below.refl _ _).grown hgrow3 (by have := hb1'.out.size; simp; omega) (fun k e => own_block hgr'.out.2.2.2.1 k e)
        have bT3 : Hid (Box w3 (w.heap.size + 1 + 1 + 1) [.string vtag, .slice av j capv] 45) := bT2.out.below hb3.out (by omega)
        go_simp
        refine hK.out _ _ ⟨(hb3.out.cell (p := ⟨w.heap.size, 0, none⟩) (by simp; omega)).trans hHeld.1, (hb3.out.cell (p := ⟨w.heap.size, 1, none⟩) (by simp; omega)).trans hHeld.2.1, (hb3.out.block bn (by omega)).trans hHeld.2.2⟩ (fun hHeld => ?_)
        clear hK K
        refine take_lit (i := 10) (d := 28) (v := ?_) rfl rfl (by kernel_rfl) (by kernel_rfl) (by kernel_rfl) (fun _ _ _ h => h) (Or.inl ⟨by rfl, ?_⟩) (by assumption) ?_
        rotate_left
        · (intro w hSw; (try dsimp only at hSw); first | (go_simp; done) | (go_simp; with_reducible rfl))
        simp only [List.set_cons_zero, List.set_cons_succ]
        refine wpAnyH_ready (rs := [11]) (by kernel_rfl) (by simp) ?_
        refine AllReadyH.cons rfl (fun K hK => ?_) AllReadyH.nil
        have cT3 := bT3.out.cell 1 rfl
        have fT3 := bT3.out.unfrozen 1
        go_simp
        refine hK.out _ _ ⟨(World.cell?_of_block (set_other (by show w.heap.size ≠ w.heap.size + 1 + 1 + 1; omega) _)).trans hHeld.1, (World.cell?_of_block (set_other (by show w.heap.size ≠ w.heap.size + 1 + 1 + 1; omega) _)).trans hHeld.2.1, (set_other (by omega) _).trans hHeld.2.2⟩ (fun hHeld => ?_)
        clear hK K
        refine wpAnyH_done (by kernel_rfl) ?_ _
        go_wp2_with fail
        go_roundw
        case rel =>
          have hsz1 := hb1'.out.size
          have hg3 := GrowOwn.snoc (TreeOwn_stays n) hgr'.out (w2 := (w1.alloc (.cells #[.string ct, .slice ak nk ck] 45))) (hb1'.out.alloc hsz1 _) (by omega) rfl (TreeOwn_stays n _ _ _ _ _ (fun b q => Below.heap_alloc _ _ _ (hi1.out b q)) ho1'.out) nd1 lo1'.out (fun b q => by have := hi1.out b q; simp; omega) (by rw [hlenj.out]) hown3 hgrow3 hat3
          refine ⟨j + 1, _, bss ++ [fs1], css ++ [[.string ct, .slice ak nk ck]], by omega, by go_num, ?_, bT3.out.set (i := 1) _, ?_⟩
          · rw [htk.out, List.map_append]
            exact hg3.set (TreeOwn_stays n) (by omega)
          · exact (((hbr.trans (hb1'.out.mono (by omega))).alloc (by omega) _).trans (hb3.out.mono (by omega))).setCell (p := ⟨w.heap.size + 1 + 1 + 1, 1, none⟩) (Nat.le_refl _) _
        case measure => simp [intOf]; omega
      · go_simp
        refine (ih.out Q y u wr.drew hyat.out hlv.out hu.out (by exact hmw.out.2.2) (hmw.out.2.1.drew)).mono ?_
        rintro e w1 ⟨⟨cs1, fs1, rfl, ho1, nd1, lo1⟩, hb1⟩
        have hb1' : Hid (Below wr.heap.size wr w1) := undrew hb1
        have hi1 : Hid (∀ b ∈ fs1, b < w1.heap.size) := TreeOwn_lt _ _ _ _ _ ho1
        have lo1' : Hid (∀ b ∈ fs1, wr.heap.size ≤ b) := fun b q => by have := lo1 b q; simpa using this
        have ho1' : Hid (TreeOwn n w1 cs1 (treeH h n Q) fs1) := ho1
        obtain ⟨ct, kk, hcs⟩ : ∃ (ct : ByteArray) (kk : Value), cs1 = [.string ct, kk] := by obtain ⟨m, hm⟩ : ∃ m, n = m + 1 := ⟨n - 1, by omega⟩; subst hm; obtain ⟨k1, _, e, _⟩ := ho1; exact ⟨_, k1, e⟩
        subst hcs
        obtain ⟨ak, nk, ck, rfl⟩ : ∃ ak nk ck, kk = .slice ak nk ck := by obtain ⟨m, hm⟩ : ∃ m, n = m + 1 := ⟨n - 1, by omega⟩; subst hm; obtain ⟨k1, f1, e, hs1, _⟩ := ho1; injection e with _ e; injection e with e _; obtain ⟨a, c, hk⟩ := hs1.form; exact ⟨a, _, c, by rw [e, hk]⟩
        have bT1 : Hid (Box w1 (w.heap.size + 1 + 1 + 1) [.string vtag, .slice av j capv] 45) := bTr.out.below hb1'.out bTr.out.lt
        clear ho1 lo1
        refine hK.out _ _ ⟨cell_on hb1 hHeld.1, cell_on hb1 hHeld.2.1, (hb1.block bn hbnr).trans hHeld.2.2⟩ (fun hHeld => ?_)
        clear hK K
        refine wpAnyH_ready (rs := [1, 8]) (by kernel_rfl) (by simp) ?_
        refine (AllReadyH.cons rfl (fun K hK => ?_) (AllReadyH.cons rfl (fun K hK => ?_) AllReadyH.nil))
        · have cT : w1.cell? ⟨w.heap.size + 1 + 1 + 1, 1, none⟩ = some (.slice av j capv) := bT1.out.cell 1 rfl
          go_simp
          clear cT
          refine hK.out _ _ hHeld (fun hHeld => ?_)
          clear hK K
          refine wpAnyH_ready (rs := [8]) (by kernel_rfl) (by simp) ?_
          refine AllReadyH.cons rfl (fun K hK => ?_) AllReadyH.nil
          have bT2 : Hid (Box (w1.alloc (.cells #[.string ct, .slice ak nk ck] 45)) (w.heap.size + 1 + 1 + 1) [.string vtag, .slice av j capv] 45) := bT1.out.alloc _
          go_simp
          refine hK.out _ _ ⟨(cell_on ((Below.refl _ _).alloc (Nat.le_refl _) _) hHeld.1), (cell_on ((Below.refl _ _).alloc (Nat.le_refl _) _) hHeld.2.1), (Below.heap_alloc _ _ _ (Array.getElem?_eq_some_iff.1 hHeld.2.2).1).trans hHeld.2.2⟩ (fun hHeld => ?_)
          clear hK K
          refine wpAnyH_ready (rs := [9]) (by kernel_rfl) (by simp) ?_
          refine AllReadyH.cons rfl (fun K hK => ?_) AllReadyH.nil
          refine step_append_lies (w1.alloc (.cells #[.string ct, .slice ak nk ck] 45)) rfl _ _ 43 rfl (w.heap.size + 1 + 1 + 1 + 1) 45 iT _ 2 40 Try.underlying43 hiT.out heT.out.1 heT.out.2.1 heT.out.2.2 rfl (by decide) (.slice av j capv) j css.flatten rfl (by have := row_below hgr'.out.2.2.2.1 (hb1'.out.alloc hb1'.out.size (.cells #[.string ct, .slice ak nk ck] 45)); rw [hlenj.out] at this; exact this) ⟨w1.heap.size, 0, none⟩ 1 1 [.string ct, .slice ak nk ck] rfl rfl (by intro i u hu; match i, hu with | 0, hu => (simp at hu; subst hu; simp [Addr.add]) | 1, hu => (simp at hu; subst hu; simp [Addr.add]) | i + 2, hu => simp at hu) (by intro u hu; simp at hu; rcases hu with rfl | rfl <;> rfl) (by omega) (by unfold maxLen; omega) (by omega) (by have := hb1'.out.size; simp; omega) _ rfl ?_
          intro g capg w3 hown3 hgrow3 hat3 hlt3
          have hb3 : Hid (Below (w.heap.size + 1 + 1 + 1 + 1) (w1.alloc (.cells #[.string ct, .slice ak nk ck] 45)) w3) := (Below.refl _ _).grown hgrow3 (by have := hb1'.out.size; simp; omega) (fun k e => own_block hgr'.out.2.2.2.1 k e)
          have bT3 : Hid (Box w3 (w.heap.size + 1 + 1 + 1) [.string vtag, .slice av j capv] 45) := bT2.out.below hb3.out (by omega)
          go_simp
          refine hK.out _ _ ⟨(hb3.out.cell (p := ⟨w.heap.size, 0, none⟩) (by simp; omega)).trans hHeld.1, (hb3.out.cell (p := ⟨w.heap.size, 1, none⟩) (by simp; omega)).trans hHeld.2.1, (hb3.out.block bn (by omega)).trans hHeld.2.2⟩ (fun hHeld => ?_)
          clear hK K
          refine take_lit (i := 10) (d := 28) (v := ?_) rfl rfl (by kernel_rfl) (by kernel_rfl) (by kernel_rfl) (fun _ _ _ h => h) (Or.inl ⟨by rfl, ?_⟩) (by assumption) ?_
          rotate_left
          · (intro w hSw; (try dsimp only at hSw); first | (go_simp; done) | (go_simp; with_reducible rfl))
          simp only [List.set_cons_zero, List.set_cons_succ]
          refine wpAnyH_ready (rs := [11]) (by kernel_rfl) (by simp) ?_
          refine AllReadyH.cons rfl (fun K hK => ?_) AllReadyH.nil
          have cT3 := bT3.out.cell 1 rfl
          have fT3 := bT3.out.unfrozen 1
          go_simp
          refine hK.out _ _ ⟨(World.cell?_of_block (set_other (by show w.heap.size ≠ w.heap.size + 1 + 1 + 1; omega) _)).trans hHeld.1, (World.cell?_of_block (set_other (by show w.heap.size ≠ w.heap.size + 1 + 1 + 1; omega) _)).trans hHeld.2.1, (set_other (by omega) _).trans hHeld.2.2⟩ (fun hHeld => ?_)
          clear hK K
          refine wpAnyH_done (by kernel_rfl) ?_ _
          go_wp2_with fail
          go_roundw
          case rel =>
            have hsz1 := hb1'.out.size
            have hg3 := GrowOwn.snoc (TreeOwn_stays n) hgr'.out (w2 := (w1.alloc (.cells #[.string ct, .slice ak nk ck] 45))) (hb1'.out.alloc hsz1 _) (by omega) rfl (TreeOwn_stays n _ _ _ _ _ (fun b q => Below.heap_alloc _ _ _ (hi1.out b q)) ho1'.out) nd1 lo1'.out (fun b q => by have := hi1.out b q; simp; omega) (by rw [hlenj.out]) hown3 hgrow3 hat3
            refine ⟨j + 1, _, bss ++ [fs1], css ++ [[.string ct, .slice ak nk ck]], by omega, by go_num, ?_, bT3.out.set (i := 1) _, ?_⟩
            · rw [htk.out, List.map_append]
              exact hg3.set (TreeOwn_stays n) (by omega)
            · exact (((hbr.trans (hb1'.out.mono (by omega))).alloc (by omega) _).trans (hb3.out.mono (by omega))).setCell (p := ⟨w.heap.size + 1 + 1 + 1, 1, none⟩) (Nat.le_refl _) _
          case measure => simp [intOf]; omega
        · have bT2 : Hid (Box (w1.alloc (.cells #[.string ct, .slice ak nk ck] 45)) (w.heap.size + 1 + 1 + 1) [.string vtag, .slice av j capv] 45) := bT1.out.alloc _
          go_simp
          refine hK.out _ _ ⟨(cell_on ((Below.refl _ _).alloc (Nat.le_refl _) _) hHeld.1), (cell_on ((Below.refl _ _).alloc (Nat.le_refl _) _) hHeld.2.1), (Below.heap_alloc _ _ _ (Array.getElem?_eq_some_iff.1 hHeld.2.2).1).trans hHeld.2.2⟩ (fun hHeld => ?_)
          clear hK K
          refine wpAnyH_ready (rs := [1]) (by kernel_rfl) (by simp) ?_
          refine AllReadyH.cons rfl (fun K hK => ?_) AllReadyH.nil
          have cT : (w1.alloc (.cells #[.string ct, .slice ak nk ck] 45)).cell? ⟨w.heap.size + 1 + 1 + 1, 1, none⟩ = some (.slice av j capv) := bT2.out.cell 1 rfl
          go_simp
          clear cT
          refine hK.out _ _ hHeld (fun hHeld => ?_)
          clear hK K
          refine wpAnyH_ready (rs := [9]) (by kernel_rfl) (by simp) ?_
          refine AllReadyH.cons rfl (fun K hK => ?_) AllReadyH.nil
          refine step_append_lies (w1.alloc (.cells #[.string ct, .slice ak nk ck] 45)) rfl _ _ 43 rfl (w.heap.size + 1 + 1 + 1 + 1) 45 iT _ 2 40 Try.underlying43 hiT.out heT.out.1 heT.out.2.1 heT.out.2.2 rfl (by decide) (.slice av j capv) j css.flatten rfl (by have := row_below hgr'.out.2.2.2.1 (hb1'.out.alloc hb1'.out.size (.cells #[.string ct, .slice ak nk ck] 45)); rw [hlenj.out] at this; exact this) ⟨w1.heap.size, 0, none⟩ 1 1 [.string ct, .slice ak nk ck] rfl rfl (by intro i u hu; match i, hu with | 0, hu => (simp at hu; subst hu; simp [Addr.add]) | 1, hu => (simp at hu; subst hu; simp [Addr.add]) | i + 2, hu => simp at hu) (by intro u hu; simp at hu; rcases hu with rfl | rfl <;> rfl) (by omega) (by unfold maxLen; omega) (by omega) (by have := hb1'.out.size; simp; omega) _ rfl ?_
          intro g capg w3 hown3 hgrow3 hat3 hlt3
          have hb3 : Hid (Below (w.heap.size + 1 + 1 + 1 + 1) (w1.alloc (.cells #[.string ct, .slice ak nk ck] 45)) w3) := (Below.refl _ _).grown hgrow3 (by have := hb1'.out.size; simp; omega) (fun k e => own_block hgr'.out.2.2.2.1 k e)
          have bT3 : Hid (Box w3 (w.heap.size + 1 + 1 + 1) [.string vtag, .slice av j capv] 45) := bT2.out.below hb3.out (by omega)
          go_simp
          refine hK.out _ _ ⟨(hb3.out.cell (p := ⟨w.heap.size, 0, none⟩) (by simp; omega)).trans hHeld.1, (hb3.out.cell (p := ⟨w.heap.size, 1, none⟩) (by simp; omega)).trans hHeld.2.1, (hb3.out.block bn (by omega)).trans hHeld.2.2⟩ (fun hHeld => ?_)
          clear hK K
          refine take_lit (i := 10) (d := 28) (v := ?_) rfl rfl (by kernel_rfl) (by kernel_rfl) (by kernel_rfl) (fun _ _ _ h => h) (Or.inl ⟨by rfl, ?_⟩) (by assumption) ?_
          rotate_left
          · (intro w hSw; (try dsimp only at hSw); first | (go_simp; done) | (go_simp; with_reducible rfl))
          simp only [List.set_cons_zero, List.set_cons_succ]
          refine wpAnyH_ready (rs := [11]) (by kernel_rfl) (by simp) ?_
          refine AllReadyH.cons rfl (fun K hK => ?_) AllReadyH.nil
          have cT3 := bT3.out.cell 1 rfl
          have fT3 := bT3.out.unfrozen 1
          go_simp
          refine hK.out _ _ ⟨(World.cell?_of_block (set_other (by show w.heap.size ≠ w.heap.size + 1 + 1 + 1; omega) _)).trans hHeld.1, (World.cell?_of_block (set_other (by show w.heap.size ≠ w.heap.size + 1 + 1 + 1; omega) _)).trans hHeld.2.1, (set_other (by omega) _).trans hHeld.2.2⟩ (fun hHeld => ?_)
          clear hK K
          refine wpAnyH_done (by kernel_rfl) ?_ _
          go_wp2_with fail
          go_roundw
          case rel =>
            have hsz1 := hb1'.out.size
            have hg3 := GrowOwn.snoc (TreeOwn_stays n) hgr'.out (w2 := (w1.alloc (.cells #[.string ct, .slice ak nk ck] 45))) (hb1'.out.alloc hsz1 _) (by omega) rfl (TreeOwn_stays n _ _ _ _ _ (fun b q => Below.heap_alloc _ _ _ (hi1.out b q)) ho1'.out) nd1 lo1'.out (fun b q => by have := hi1.out b q; simp; omega) (by rw [hlenj.out]) hown3 hgrow3 hat3
            refine ⟨j + 1, _, bss ++ [fs1], css ++ [[.string ct, .slice ak nk ck]], by omega, by go_num, ?_, bT3.out.set (i := 1) _, ?_⟩
            · rw [htk.out, List.map_append]
              exact hg3.set (TreeOwn_stays n) (by omega)
            · exact (((hbr.trans (hb1'.out.mono (by omega))).alloc (by omega) _).trans (hb3.out.mono (by omega))).setCell (p := ⟨w.heap.size + 1 + 1 + 1, 1, none⟩) (Nat.le_refl _) _
          case measure => simp [intOf]; omega
    · obtain rfl : j = x.vKids.length := by omega
      have cT0 := bTr.out.cell 0 rfl
      have cT1 := bTr.out.cell 1 rfl
      have cR0 := bRr.out.cell 0 rfl
      have cR1 := bRr.out.cell 1 rfl
      have fR := bRr.out.unfrozen
      go_wp2_with fail
      have r1 := ((bRr.out.set (i := 0) (.string vtag)).set (i := 1) (.slice av x.vKids.length capv)).cell 1 rfl
      have r2 := ((bRr.out.set (i := 0) (.string vtag)).set (i := 1) (.slice av x.vKids.length capv)).cell 0 rfl
      refine bodyPost_ret (v := .agg #[.string vtag, .slice av x.vKids.length capv]) (by simp [results, Try.results48, go_sem, r1, r2]) rfl ?_
      have hg2 := (hgr.out.set (TreeOwn_stays n) (g := w.heap.size + 1 + 1) (i := 0) (u := .string vtag) (by omega)).set (TreeOwn_stays n) (g := w.heap.size + 1 + 1) (i := 1) (u := .slice av x.vKids.length capv) (by omega)
      obtain ⟨fs, hso, hlo⟩ := hg2.done
      refine ⟨⟨[.string vtag, .slice av x.vKids.length capv], fs, rfl, ⟨.slice av x.vKids.length capv, fs, ?_, ?_, ?_, rfl⟩, hso.nodup, fun b q => by have := hlo b q; omega⟩, (hbw.setCell (p := ⟨w.heap.size + 1 + 1, 0, none⟩) (by simp; omega) _).setCell (p := ⟨w.heap.size + 1 + 1, 1, none⟩) (by simp; omega) _⟩
      · rw [treeH_some hx'.out, e0'.out]
      · rw [treeH_some hx'.out]
        have : x.vKids.take x.vKids.length = x.vKids := List.take_length
        rw [this] at hso
        exact hso
      · rw [treeH_some hx'.out, ← e0'.out]
        exact rTag'.out
end Go.Proofs.Ytndmakfaleaejaa
