/- renameIn of the program: walked. -/
import Derived.Test.YtndffcogddefiaaEdNode
import Derived.Test.YtndffcogddefiaaTakeLit
import Derived.Deep.RegionHeld3
import Derived.Deep.DeepCutAuto
namespace Go.Proofs.Ytndffcogddefiaa
open Go.RowKit Go.Deep
theorem out_of_below {fs : List Nat} {w w' : World} (h : Below w.heap.size w w') : Out fs w w' := ⟨h.os, h.tape, h.output, h.size, fun k h1 _ => h.block k h1⟩
theorem LocP.keep {w w' : World} : ∀ (ps : List Int) {b o b1 o1 : Nat}, LocP w b o ps b1 o1 → Below w.heap.size w w' → LocP w' b o ps b1 o1 := by
  intro ps
  induction ps with
  | nil => intro b o b1 o1 h _; exact h
  | cons p ps ih =>
    intro b o b1 o1 h hb
    obtain ⟨x, y, n, c, e, h⟩ := h
    exact ⟨x, y, n, c, by rw [World.cell?_of_block (w := w) (w' := w') (hb.block b (World.block_lt_of_cell? _ _ e))]; exact e, ih h hb⟩
/-- a tree that lies at R and owns its memory has become another one -/
def Turned (w w' : World) (R : Nat) (C : Array Value) (fs : List Nat) (x : TD) : Prop := ∃ (cs3 : List Value) (fs3 : List Nat) (n3 : Nat), cs3.length = 2 ∧ RowIs w' R 0 C 26 cs3 ∧ TreeO n3 w' cs3 x fs3 ∧ fs3.Nodup ∧ R ∉ fs3 ∧ ∀ b ∈ fs3, b ∈ fs ∨ w.heap.size ≤ b
/-- what renameIn answers -/
def RenR (w w' : World) (R : Nat) (C : Array Value) (fs : List Nat) (d : TD) (kp : Value) (path : List Int) (tag : ByteArray) (e : Ending) : Prop :=
  (okP d path = true ∧ e = .returned (.tuple #[.iface 85 (.agg #[kp, .string (strT (endP d path))]), .bool true]) ∧ Turned w w' R C fs (setP d path (mkT tag (kidsOf (endP d path)))) ∧ Out (R :: fs) w w') ∨ (okP d path = false ∧ e = .returned (.tuple #[.nilIface, .bool false]) ∧ Below w.heap.size w w')
theorem RenR.yes {w w' : World} {R : Nat} {C : Array Value} {fs : List Nat} {d : TD} {kp : Value} {path : List Int} {tag : ByteArray} (h : okP d path = true) {N : Nat} (ht : ∃ cs3 fs3, cs3.length = 2 ∧ RowIs w' R 0 C 26 cs3 ∧ TreeO N w' cs3 (setP d path (mkT tag (kidsOf (endP d path)))) fs3 ∧ fs3.Nodup ∧ R ∉ fs3 ∧ ∀ x ∈ fs3, x ∈ fs ∨ w.heap.size ≤ x) (ho : Out (R :: fs) w w') : RenR w w' R C fs d kp path tag (.returned (.tuple #[.iface 85 (.agg #[kp, .string (strT (endP d path))]), .bool true])) := by
  obtain ⟨cs3, fs3, q⟩ := ht
  exact Or.inl ⟨h, rfl, ⟨cs3, fs3, _, q⟩, ho⟩
set_option maxRecDepth 100000 in
set_option maxHeartbeats 8000000 in
theorem renameIn_any {w : World} {n R lo : Nat} {C : Array Value} {cs : List Value} {d : TD} {fs : List Nat} {kp : Value} {path : List Int} {tag : ByteArray} (hrow : RowIs w R 0 C 26 cs) (hl : cs.length = 2) (ht : TreeO n w cs d fs) (hnd : fs.Nodup) (hb : R ∉ fs) (hp : SeqAt 1 IntAt w lo kp path) (htg0 : tag.size ≤ maxLen) :
    Calls Try.prog 68 #[.pointer (some ⟨R, 0, none⟩), .agg #[kp, .string tag]] w fun e w' => RenR w w' R C fs d kp path tag e := by
  obtain ⟨ap, cp, rfl⟩ := hp.form
  have htg : Hid (tag.size ≤ maxLen) := htg0
  have hb0 : Hid (Below w.heap.size w (w.alloc (.cells #[.slice ap path.length cp, .string tag] 85))) := (Below.refl _ _).alloc (Nat.le_refl _) _
  have bC0 : Hid (Box (w.alloc (.cells #[.slice ap path.length cp, .string tag] 85)) w.heap.size [.slice ap path.length cp, .string tag] 85) := Box.new w _ _
  have hfl : Hid (∀ x ∈ fs, x < w.heap.size) := fun x hx => TreeO_lt n _ _ _ _ ht x hx
  have hcall : Hid (Calls Try.prog 74 #[.pointer (some ⟨R, 0, none⟩), .slice ap path.length cp] (w.alloc (.cells #[.slice ap path.length cp, .string tag] 85)) fun e w' => NodeR (w.alloc (.cells #[.slice ap path.length cp, .string tag] 85)) R 0 d path e ∧ Below (w.alloc (.cells #[.slice ap path.length cp, .string tag] 85)).heap.size (w.alloc (.cells #[.slice ap path.length cp, .string tag] 85)) w') :=
    nodeAt_any (hrow.below hb0.out) hl (TreeO_stays n _ _ _ _ _ (fun x hx => hb0.out.block x (hfl.out x hx)) ht) hnd hb (hp.below intAt_stays hb0.out)
  have hz : Hid (okP d path = true → ∃ (b' o' n' : Nat) (C' : Array Value) (T' : TypeId) (cs' : List Value) (fs' : List Nat), RowIs w b' o' C' T' cs' ∧ cs'.length = 2 ∧ TreeO n' w cs' (endP d path) fs' ∧ fs'.Nodup ∧ b' ∉ fs' ∧ (b' = R ∨ b' ∈ fs) ∧ (∀ x ∈ fs', x ∈ fs) ∧ n' ≤ n ∧ LocP w R 0 path b' o' ∧
      ∀ (w2 : World) (cs2 : List Value) (y : TD) (fs2 : List Nat) (m : Nat), cs2.length = 2 → RowIs w2 b' o' C' T' cs2 → Out (b' :: fs') w w2 → TreeO m w2 cs2 y fs2 → fs2.Nodup → b' ∉ fs2 → (∀ x ∈ fs2, x ∈ fs' ∨ w.heap.size ≤ x) →
        ∃ cs3 fs3, cs3.length = 2 ∧ RowIs w2 R 0 C 26 cs3 ∧ TreeO (n + m) w2 cs3 (setP d path y) fs3 ∧ fs3.Nodup ∧ R ∉ fs3 ∧ ∀ x ∈ fs3, x ∈ fs ∨ w.heap.size ≤ x) := fun h => zoom path n w R 0 C 26 cs d fs hrow hl ht hnd hb h
  clear hrow hl ht hnd hb hp htg0
  go_enter Try.func68, Try.ntmps68
  have p0 := bC0.out.cell 0 rfl
  go_wp2_with fail
  refine hcall.out.mono ?_
  rintro e w1 ⟨hn, hb1⟩
  have hB1 : Hid (Below w.heap.size w w1) := hb0.out.trans (hb1.mono (by simp))
  have bC1 : Hid (Box w1 w.heap.size [.slice ap path.length cp, .string tag] 85) := bC0.out.below hb1 bC0.out.lt
  clear p0 bC0 hcall
  rcases hn with ⟨hok, b9, o9, rfl, hloc⟩ | ⟨hok, rfl⟩
  · have hok' : Hid (okP d path = true) := hok
    obtain ⟨b', o', n', C', T', cs', fs', z1, z2, z3, z4, z5, z6, z7, _, z9, z10⟩ := hz.out hok
    obtain ⟨rfl, rfl⟩ := LocP.one _ hloc (LocP.keep _ z9 hb0.out)
    obtain ⟨k2, rfl, hsq, _⟩ := z3.opened
    obtain ⟨a2, c2, rfl⟩ := hsq.form
    have z1' : Hid (RowIs w b9 o9 C' T' [.string (strT (endP d path)), .slice a2 (kidsOf (endP d path)).length c2]) := z1
    have z3' : Hid (TreeO n' w [.string (strT (endP d path)), .slice a2 (kidsOf (endP d path)).length c2] (endP d path) fs') := z3
    have z4' : Hid fs'.Nodup := z4
    have z5' : Hid (b9 ∉ fs') := z5
    have zcl : Hid (∀ (w2 : World) (cs2 : List Value) (y : TD) (fs2 : List Nat) (m : Nat), cs2.length = 2 → RowIs w2 b9 o9 C' T' cs2 → Out (b9 :: fs') w w2 → TreeO m w2 cs2 y fs2 → fs2.Nodup → b9 ∉ fs2 → (∀ x ∈ fs2, x ∈ fs' ∨ w.heap.size ≤ x) →
        ∃ cs3 fs3, cs3.length = 2 ∧ RowIs w2 R 0 C 26 cs3 ∧ TreeO (n + m) w2 cs3 (setP d path y) fs3 ∧ fs3.Nodup ∧ R ∉ fs3 ∧ ∀ x ∈ fs3, x ∈ fs ∨ w.heap.size ≤ x) := z10
    have hsub : Hid (∀ x ∈ b9 :: fs', x ∈ R :: fs) := fun x hx => by
      rcases List.mem_cons.1 hx with rfl | hx
      · rcases z6 with q | q
        · rw [q]; exact List.mem_cons_self
        · exact List.mem_cons_of_mem _ q
      · exact List.mem_cons_of_mem _ (z7 x hx)
    have hfl' : Hid (∀ x ∈ fs', x < w.heap.size) := fun x hx => hfl.out x (z7 x hx)
    have hSall : Hid (∀ W', Below w1.heap.size w1 W' → W'.cell? ⟨w.heap.size, 0, none⟩ = some (.slice ap path.length cp) ∧ W'.cell? ⟨b9, o9, none⟩ = some (.string (strT (endP d path)))) := fun W' hb => by
      have q := z1.below (hB1.out.trans (hb.mono hB1.out.size))
      have q0 := q.cell 0 rfl
      simp only [Nat.add_zero] at q0
      exact ⟨(bC1.out.below hb bC1.out.lt).cell 0 rfl, q0⟩
    clear hloc hsq z1 z2 z3 z4 z5 z6 z7 z9 z10 hb1 hok hz
    go_upto_region 4 with fail
    refine wp_region_held_drew (S := fun w' => w'.cell? ⟨w.heap.size, 0, none⟩ = some (.slice ap path.length cp) ∧ w'.cell? ⟨b9, o9, none⟩ = some (.string (strT (endP d path)))) (by kernel_rfl) (hSall.out _ (Below.drew (Below.refl _ _))) (fun hHeld => ?_)
    refine tq (i := 0) (d := 14) ?_
    simp only [sz, ss]
    refine tq (i := 1) (d := 15) ?_
    simp only [sz, ss]
    refine tq (i := 2) (d := 16) ?_
    simp only [sz, ss]
    refine tq (i := 3) (d := 17) ?_
    simp only [sz, ss]
    refine tq (i := 4) (d := 18) ?_
    simp only [sz, ss]
    refine tq (i := 5) (d := 19) ?_
    simp only [sz, ss]
    refine tq (i := 6) (d := 20) ?_
    simp only [sz, ss]
    refine wpAnyH_ready (rs := [7]) (by kernel_rfl) (by simp) ?_
    refine AllReadyH.cons rfl (fun K hK => ?_) AllReadyH.nil
    go_simp
    refine hK.out _ _ (hSall.out _ ((Below.drew (Below.refl w1.heap.size w1)).alloc (Nat.le_refl _) _)) (fun hHeld => ?_)
    clear hK K
    refine wpAnyH_ready (rs := [8]) (by kernel_rfl) (by simp) ?_
    refine AllReadyH.cons rfl (fun K hK => ?_) AllReadyH.nil
    go_simp
    refine hK.out _ _ (hSall.out _ ((Below.drew (Below.refl w1.heap.size w1)).alloc (Nat.le_refl _) _)) (fun hHeld => ?_)
    clear hK K
    refine wpAnyH_done (by kernel_rfl) ?_ _
    obtain ⟨wz, hwz⟩ : ∃ wz, (w1.alloc (.cells #[.slice ap path.length cp, .string (strT (endP d path))] 85)).drew = wz := ⟨_, rfl⟩
    rw [hwz]
    have hBz : Hid (Below w1.heap.size w1 wz) := by rw [← hwz]; exact Below.drew ((Below.refl _ _).alloc (Nat.le_refl _) _)
    have bB : Hid (Box wz w1.heap.size [.slice ap path.length cp, .string (strT (endP d path))] 85) := by rw [← hwz]; exact Box.new w1 _ _
    clear hwz
    have bCz : Hid (Box wz w.heap.size [.slice ap path.length cp, .string tag] 85) := bC1.out.below hBz.out bC1.out.lt
    have hrz := z1'.out.below (hB1.out.trans (hBz.out.mono hB1.out.size))
    have y0 := hrz.cell 0 rfl
    have fy := hrz.unfrozen o9
    simp only [Nat.add_zero] at y0
    have c1 := bCz.out.cell 1 rfl
    have hset := hrz.set (m := 0) (by simp) (.string tag)
    simp only [Nat.add_zero] at hset
    have hset' : Hid (RowIs (wz.setCell ⟨b9, o9, none⟩ (.string tag)) b9 o9 C' T' [.string tag, .slice a2 (kidsOf (endP d path)).length c2]) := hset
    have bBy : Hid (Box (wz.setCell ⟨b9, o9, none⟩ (.string tag)) w1.heap.size [.slice ap path.length cp, .string (strT (endP d path))] 85) := bB.out.other (by have := z1'.out.lt; have := hB1.out.size; omega) _
    have k0 := bBy.out.cell 0 rfl
    have k1 := bBy.out.cell 1 rfl
    have hOz : Hid (Out (b9 :: fs') w (wz.setCell ⟨b9, o9, none⟩ (.string tag))) := Out.set (out_of_below (hB1.out.trans (hBz.out.mono hB1.out.size))) List.mem_cons_self _
    have hOz' : Hid (∀ x ∈ fs', (wz.setCell ⟨b9, o9, none⟩ (.string tag)).heap[x]? = w.heap[x]?) := fun x hx => (set_other (fun q => z5'.out (by rw [← q]; exact hx)) _).trans ((hB1.out.trans (hBz.out.mono hB1.out.size)).block x (hfl'.out x hx))
    clear hset hrz
    go_wp2_with fail
    go_ret2
    refine RenR.yes (N := n + n') hok'.out ?_ (hOz.out.wider hsub.out)
    obtain ⟨k3, e3, hseq, hsz⟩ := z3'.out.opened
    injection e3 with e4 e5
    injection e5 with e5 _
    have hTO : TreeO n' (wz.setCell ⟨b9, o9, none⟩ (.string tag)) [.string tag, .slice a2 (kidsOf (endP d path)).length c2] (mkT tag (kidsOf (endP d path))) fs' := by
      cases n' with
      | zero => exact z3'.out.elim
      | succ n' =>
        refine ⟨_, fs', rfl, ?_, htg.out, rfl⟩
        rw [e5]
        exact hseq.stays (TreeO_stays n') (fun x hx => hOz'.out x hx)
    exact zcl.out _ _ _ _ _ rfl hset'.out hOz.out hTO z4'.out z5'.out (fun x hx => Or.inl hx)
  · have hok' : Hid (okP d path = false) := hok
    go_wp2_with fail
    go_ret2
    exact Or.inr ⟨hok'.out, rfl, hB1.out⟩
end Go.Proofs.Ytndffcogddefiaa
namespace Go.Proofs.Ytndffcogddefiaa
open Go.RowKit Go.Deep
set_option maxRecDepth 100000 in
set_option maxHeartbeats 8000000 in
theorem splitPath_any {w : World} {lo m cp : Nat} {ap : Option Addr} {path : List Int} (hp : SeqAt 1 IntAt w lo (.slice ap path.length cp) path) (hm : path.length = m + 1) (hcp : path.length ≤ cp) :
    Calls Try.prog 73 #[.slice ap path.length cp] w fun e w' => ∃ P, (e = .returned (.tuple #[.slice ap m cp, .int .i64 P]) ∧ path = path.take m ++ [P]) ∧ Below w.heap.size w w' := by
  obtain ⟨ap', cp', e', hmx, hx⟩ := hp
  injection e' with e1 _ e3
  subst e1 e3
  unfold maxLen at hmx
  obtain ⟨bp, op, rfl, hlo, hbp, hc⟩ := hx (by omega)
  obtain ⟨cs1, _, lie, hr⟩ := hc m (by omega)
  have hP0 : path = path.take m ++ [path[m]'(by omega)] := by
    have q := List.take_succ_eq_append_getElem (l := path) (i := m) (by omega)
    rw [List.take_of_length_le (by omega)] at q
    exact q
  generalize path[m]'(by omega) = P at hr hP0
  obtain ⟨rfl, hPI⟩ := hr
  have hP : Hid (path = path.take m ++ [P]) := hP0
  have x0 := lie 0 (by simp)
  simp only [List.getElem?_cons_zero, Nat.add_zero, Nat.mul_one] at x0
  have hmc : m ≤ cp := by omega
  have hmm : (m : Int) < (m : Int) + 1 := by omega
  generalize hL : path.length = L at hm hmx ⊢
  subst hm
  clear hc hx lie hP0
  go_enter Try.func73, Try.ntmps73
  go_upto_region 2 with fail
  refine wp_region_held_drew (S := fun w' => w'.cell? ⟨bp, op + m, none⟩ = some (.int .i64 P)) (by kernel_rfl) x0 (fun hHeld => ?_)
  refine tq (i := 0) (d := 8) ?_
  simp only [sz, ss]
  refine tq (i := 1) (d := 9) ?_
  simp only [sz, ss]
  refine take_lit (i := 2) (d := 10) (v := .slice (some ⟨bp, op, none⟩) m cp) rfl rfl (by kernel_rfl) (by kernel_rfl) (by kernel_rfl) (fun _ _ _ h => h) (Or.inl ⟨by rfl, ?_⟩) (by assumption) ?_
  · (intro w9 hS9; (try dsimp only at hS9); go_simp)
  simp only [sz, ss]
  refine tq (i := 3) (d := 11) ?_
  simp only [sz, ss]
  refine tq (i := 4) (d := 12) ?_
  simp only [sz, ss]
  refine take_lit (i := 5) (d := 13) (v := .pointer (some ⟨bp, op + m, none⟩)) rfl rfl (by kernel_rfl) (by kernel_rfl) (by kernel_rfl) (fun _ _ _ h => h) (Or.inl ⟨by rfl, ?_⟩) (by assumption) ?_
  · (intro w9 hS9; (try dsimp only at hS9); go_simp)
  simp only [sz, ss]
  refine tq (i := 6) (d := 14) ?_
  simp only [sz, ss]
  refine tq (i := 7) (d := 2) ?_
  simp only [sz, ss]
  refine tq (i := 8) (d := 3) ?_
  simp only [sz, ss]
  refine wpAnyH_done (by kernel_rfl) ?_ _
  go_wp2_with fail
  go_ret2
  exact ⟨⟨_, rfl, hP.out⟩, Below.drew (Below.refl _ _)⟩
end Go.Proofs.Ytndffcogddefiaa
