/- A node copied, of the specification: its answer owns its rows' room. -/
import Derived.Test.YtdnembnlomnceaaGreatFillOver
import Derived.Test.YtdnembnlomnceaaGreatOwnRows
import Derived.Test.YtdnembnlomnceaaGreatRows
import Derived.WalkKit
import Derived.Test.YtdnembnlomnceaaGreatAppendRows
import Derived.Test.YtdnembnlomnceaaGreatHpBox
import Derived.Test.YtdnembnlomnceaaGreatTakeMore
import Derived.Deep.RegionHeld3
namespace Go.Proofs.YtdnembnlomnceaaGreat
open Go.RowKit
theorem info_parts2 {P : Program} {T : TypeId} {z : Value} {s b : Nat} (h : ((P.info? T).map fun i => (i.zero, i.size, i.bytes)) = some (some z, s, b)) : ∃ i, P.info? T = some i ∧ i.zero = some z ∧ i.size = s ∧ i.bytes = b := by
 obtain ⟨i, hi, he⟩ := Option.map_eq_some_iff.1 h
 simp only [Prod.mk.injEq] at he
 exact ⟨i, hi, he.1, he.2.1, he.2.2⟩
end Go.Proofs.YtdnembnlomnceaaGreat
namespace Go.Proofs.YtdnembnlomnceaaGreat
open Go.RowKit
/-- cells of a row, read in an elder world -/
theorem CssAt.on {α : Type} {c : Nat} {R : World → Nat → List Value → α → Prop} {w w' : World} {lo : Nat} {a : Option Addr} {xs : List α} {css : List (List Value)} (h : CssAt c R w lo a xs css) (hb : Below w.heap.size w w') : CssAt c (fun _ => R w) w' lo a xs css := by
 obtain ⟨k1, k2, k3, k4, k5⟩ := h
 exact ⟨k1, k2, k3, k4, fun ad e j u hu => cell_on hb (k5 ad e j u hu)⟩
theorem infoNodeC : ∃ i, Tryz.prog.info? 73 = some i ∧ i.zero = some (.agg #[.int .i64 0, .string ByteArray.empty, .int .i64 0, .slice none 0 0, .int .i64 0, .slice none 0 0]) ∧ i.size = 6 ∧ i.bytes = 88 := info_parts2 (by kernel_rfl)
theorem infoObjC : ∃ i, Tryz.prog.info? 75 = some i ∧ i.zero = some (.agg #[.int .i64 0, .int .i64 0, .slice none 0 0]) ∧ i.size = 3 ∧ i.bytes = 40 := info_parts2 (by kernel_rfl)
theorem Field_one {w : World} {lo : Nat} {cs : List Value} {x : FieldD} (h : FieldAt w lo cs x) : ∀ u ∈ cs, u.oneCell' = true := by
 obtain ⟨rfl, _⟩ := h
 intro u hu
 simp only [List.mem_cons, List.not_mem_nil, or_false] at hu
 rcases hu with rfl | rfl <;> rfl
theorem Field_css {w : World} {lo : Nat} {a : Option Addr} {xs : List FieldD} {css : List (List Value)} {w0 : World} (h : CssAt 2 (fun _ => FieldAt w0) w lo a xs css) : ∀ cs ∈ css, ∀ u ∈ cs, u.oneCell' = true := fun cs hc => by
 obtain ⟨i, hi, rfl⟩ := List.mem_iff_getElem.1 hc
 exact Field_one (h.2.2.1 i hi (by have := h.1; omega))
theorem infoFieldC : ∃ i, Tryz.prog.info? 118 = some i ∧ i.zero = some (.agg #[.string ByteArray.empty, .int .i64 0]) ∧ i.size = 2 ∧ i.bytes = 24 := info_parts2 (by kernel_rfl)
end Go.Proofs.YtdnembnlomnceaaGreat
namespace Go.Proofs.YtdnembnlomnceaaGreat
open Go.RowKit
theorem row_form2 {w : World} {base e size n : Nat} {v : Value} {xs : List Value} (h : w.ownsRow base e size v n xs) : ∃ a cap, v = .slice a n cap := by
 rcases h.2 with ⟨rfl, hn⟩ | ⟨g, cap, cur, rfl, _⟩
 · exact ⟨none, 0, by rw [hn]⟩
 · exact ⟨_, _, rfl⟩
theorem row_keep2 {w w' : World} {base e size n : Nat} {v : Value} {xs : List Value} (h : w.ownsRow base e size v n xs) (hk : ∀ g, v.ownBlock = some g → w'.heap[g]? = w.heap[g]?) : w'.ownsRow base e size v n xs := by
 refine ⟨h.1, ?_⟩
 rcases h.2 with h2 | ⟨g, cap, cur, hv, hg, hh, r⟩
 · exact Or.inl h2
 · exact Or.inr ⟨g, cap, cur, hv, hg, (hk g (by rw [hv]; rfl)).trans hh, r⟩
theorem field_own2 {w0 w : World} {lo : Nat} (cs : List Value) (x : FieldD) (h : FieldAt w0 lo cs x) : FieldOwn w cs x [] := by
 obtain ⟨e, r0, r1, _⟩ := h
 exact ⟨e, r0, r1, rfl⟩
theorem cell_set {w : World} {b i T f : Nat} {v : Value} (h : w.cell? ⟨b, i, none⟩ = some v) (hne : b ≠ T) (u : Value) : (w.setCell ⟨T, f, none⟩ u).cell? ⟨b, i, none⟩ = some v := by
 rw [World.cell?_of_block (w := w) (set_other hne _)]; exact h
end Go.Proofs.YtdnembnlomnceaaGreat
namespace Go.Proofs.YtdnembnlomnceaaGreat
open Go.RowKit
theorem infoI64c : ((Tryz.prog.info? 2).map fun i => (i.zero, i.bytes, i.size)) = some (some (.int .i64 0), 8, 1) := by kernel_rfl
theorem infoLi : ((Tryz.prog.info? 89).map fun i => (i.zero, i.bytes, i.size)) = some (some (.agg #[.string ByteArray.empty, .bool false, .bool false, .int .i64 0, .string ByteArray.empty]), 48, 5) := by kernel_rfl
theorem listener_own {w0 w : World} {lo : Nat} (cs : List Value) (x : ListenerD) (h : ListenerAt w0 lo cs x) : ListenerOwn w cs x [] := by
 obtain ⟨e, r0, r1, r2, _⟩ := h
 exact ⟨e, r0, r1, r2, rfl⟩
theorem listener_one {w0 : World} {lo : Nat} {cs : List Value} {x : ListenerD} (h : ListenerAt w0 lo cs x) : ∀ u ∈ cs, u.oneCell' = true := by
 obtain ⟨rfl, _⟩ := h
 intro u hu
 simp only [List.mem_cons, List.not_mem_nil, or_false] at hu
 rcases hu with rfl | rfl | rfl | rfl | rfl <;> rfl
theorem seq_mem {α : Type} {c : Nat} {R : World → Nat → List Value → α → Prop} {w : World} {lo : Nat} {k : Value} {xs : List α} (h : SeqAt c R w lo k xs) {x : α} (hx : x ∈ xs) : ∃ cs, R w lo cs x := by
 obtain ⟨i, hi, rfl⟩ := List.mem_iff_getElem.1 hx
 obtain ⟨a, cap, _, _, hc⟩ := h
 obtain ⟨b, off, _, _, _, hcs⟩ := hc (by omega)
 obtain ⟨cs, _, _, r⟩ := hcs i hi
 exact ⟨cs, r⟩
end Go.Proofs.YtdnembnlomnceaaGreat
namespace Go.Proofs.YtdnembnlomnceaaGreat
open Go.RowKit
theorem GrowOwn.base0 {α : Type} {T c : Nat} {R : World → List Value → α → List Nat → Prop} {base : Nat} {w : World} {v : Value} {xs : List α} {bss : List (List Nat)} {css : List (List Value)} (h : GrowOwn T c R base w v xs bss css) : GrowOwn T c R 0 w v xs bss css := by
 obtain ⟨h1, h2, h3, h4, h5, h6, h7⟩ := h
 refine ⟨h1, h2, h3, ⟨h4.1, ?_⟩, h5, h6, fun b hb => ⟨Nat.zero_le _, (h7 b hb).2⟩⟩
 rcases h4.2 with q | ⟨g, cap, cur, hv, _, r⟩
 · exact Or.inl q
 · exact Or.inr ⟨g, cap, cur, hv, Nat.zero_le _, r⟩
theorem growP_of_css {w0 w : World} {lo base : Nat} {a : Option Addr} {v : Value} {xs : List ListenerD} {css : List (List Value)} (hc : CssAt 5 ListenerAt w0 lo a xs css) (h : w.ownsRow base 89 5 v xs.length css.flatten) : ∃ bL, GrowOwn 89 5 ListenerOwn 0 w v xs bL css ∧ ∀ b ∈ gfs v bL, base ≤ b := by
 have hf : (List.replicate xs.length ([] : List Nat)).flatten = [] := by simp
 have g0 : GrowOwn 89 5 ListenerOwn base w v xs (List.replicate xs.length []) css := ⟨hc.1, by simp, hc.2.1, h, fun i h1 h2 h3 => by rw [List.getElem_replicate]; exact listener_own _ _ (hc.2.2.1 i h2 h1), by rw [hf]; exact List.nodup_nil, fun b hb => by rw [hf] at hb; cases hb⟩
 exact ⟨_, g0.base0, fun b hb => (g0.lts b hb).1⟩
set_option maxRecDepth 100000 in
set_option maxHeartbeats 3200000 in
theorem l4CopyNodeP_any {w : World} {lo : Nat} {cs : List Value} {x : NodeD} (hx : NodeAt w lo cs x) (hs : x.small) :
 Calls Tryz.prog 74 #[.agg cs.toArray] w fun e w' => (∃ cs' fs, e = .returned (.agg cs'.toArray) ∧ NodeP w' cs' x fs ∧ fs.Nodup ∧ ∀ b ∈ fs, w.heap.size ≤ b) ∧ Below w.heap.size w w' := by
 obtain ⟨iI, hiI, heI⟩ := Option.map_eq_some_iff.1 infoI64c
 simp only [Prod.mk.injEq] at heI
 have hI : Hid _ := hiI
 have hE : Hid _ := heI
 obtain ⟨iL, hiL, heL⟩ := Option.map_eq_some_iff.1 infoLi
 simp only [Prod.mk.injEq] at heL
 have hIL : Hid _ := hiL
 have hEL : Hid _ := heL
 clear hiI heI hiL heL
 obtain ⟨k3, k5, rfl, s3, s5, rI, rT, rP, rW, _⟩ := hx
 have hk3 : Hid (SeqAt 1 IntAt w lo k3 x.vKids) := s3
 obtain ⟨a3, cap3, rfl⟩ := s3.form
 obtain ⟨a5, cap5, rfl⟩ := s5.form
 obtain ⟨css, hcss⟩ := seq_css (by decide) s5
 have hcss' : Hid (CssAt 5 ListenerAt w lo a5 x.vListeners css) := hcss
 have hl3 : x.vKids.length ≤ 1048576 := hs.2.1
 have hl5 : x.vListeners.length ≤ 1048576 := hs.2.2.1.1
 have hone : Hid (∀ cs ∈ css, ∀ u ∈ cs, u.oneCell' = true) := fun cs hc => by
  obtain ⟨i, hi, rfl⟩ := List.mem_iff_getElem.1 hc
  exact listener_one (hcss.2.2.1 i hi (by have := hcss.1; omega))
 have hints : Hid (∀ y ∈ x.vKids, InI y) := fun y hy => by obtain ⟨cy, _, q⟩ := seq_mem s3 hy; exact q
 have hrr : Hid (InI x.vId ∧ x.vTag.size ≤ maxLen ∧ InI x.vParent ∧ InI x.vWrapper) := ⟨rI, rT, rP, rW⟩
 clear s3 s5 hcss hs rI rT rP rW
 have hbA : Below w.heap.size w (((w.alloc (.cells (List.toArray (cNd x a3 cap3 a5 cap5)) 73)).alloc (.cells (List.toArray [.int .i64 0, .string ByteArray.empty, .int .i64 0, .slice none 0 0, .int .i64 0, .slice none 0 0]) 73)).alloc (.cells #[] 2)) := (((Below.refl _ _).alloc (Nat.le_refl _) _).alloc (by simp) _).alloc (by simp; omega) _
 have bX0 : Hid (Box (((w.alloc (.cells (List.toArray (cNd x a3 cap3 a5 cap5)) 73)).alloc (.cells (List.toArray [.int .i64 0, .string ByteArray.empty, .int .i64 0, .slice none 0 0, .int .i64 0, .slice none 0 0]) 73)).alloc (.cells #[] 2)) w.heap.size (cNd x a3 cap3 a5 cap5) 73) := ((Box.new w (cNd x a3 cap3 a5 cap5) 73).alloc _).alloc _
 have bZ0 : Hid (Box (((w.alloc (.cells (List.toArray (cNd x a3 cap3 a5 cap5)) 73)).alloc (.cells (List.toArray [.int .i64 0, .string ByteArray.empty, .int .i64 0, .slice none 0 0, .int .i64 0, .slice none 0 0]) 73)).alloc (.cells #[] 2)) (w.heap.size + 1) [.int .i64 0, .string ByteArray.empty, .int .i64 0, .slice none 0 0, .int .i64 0, .slice none 0 0] 73) := by
  have q := (Box.new (w.alloc (.cells (List.toArray (cNd x a3 cap3 a5 cap5)) 73)) [.int .i64 0, .string ByteArray.empty, .int .i64 0, .slice none 0 0, .int .i64 0, .slice none 0 0] 73).alloc (.cells #[] 2)
  simpa only [World.size_alloc, Hid] using q
 have hr0 : Hid ((((w.alloc (.cells (List.toArray (cNd x a3 cap3 a5 cap5)) 73)).alloc (.cells (List.toArray [.int .i64 0, .string ByteArray.empty, .int .i64 0, .slice none 0 0, .int .i64 0, .slice none 0 0]) 73)).alloc (.cells #[] 2)).ownsRow (w.heap.size + 2) 2 1 (.slice (some ⟨w.heap.size + 1 + 1, 0, none⟩) 0 0) 0 []) := by
  have q := row_start (w := ((w.alloc (.cells (List.toArray (cNd x a3 cap3 a5 cap5)) 73)).alloc (.cells (List.toArray [.int .i64 0, .string ByteArray.empty, .int .i64 0, .slice none 0 0, .int .i64 0, .slice none 0 0]) 73))) (B := w.heap.size + 2) (by simp)
  simpa only [World.size_alloc, Hid] using q
 have hkA : Hid (SeqAt 1 IntAt (((w.alloc (.cells (List.toArray (cNd x a3 cap3 a5 cap5)) 73)).alloc (.cells (List.toArray [.int .i64 0, .string ByteArray.empty, .int .i64 0, .slice none 0 0, .int .i64 0, .slice none 0 0]) 73)).alloc (.cells #[] 2)) lo (.slice a3 x.vKids.length cap3) x.vKids) := SeqAt.keep intAt_stays hk3.out (.of_below hbA)
 have hzA : (((w.alloc (.cells (List.toArray (cNd x a3 cap3 a5 cap5)) 73)).alloc (.cells (List.toArray [.int .i64 0, .string ByteArray.empty, .int .i64 0, .slice none 0 0, .int .i64 0, .slice none 0 0]) 73)).alloc (.cells #[] 2)).heap.size = w.heap.size + 3 := by simp
 go_enter Tryz.func74, Tryz.ntmps74
 go_wp2_with (at_builtin; refine wpList_append_ints rfl _ _ 29 rfl (w.heap.size + 2) lo 2 iI Tryz.underlying29 hI.out hE.out.1 hE.out.2.2 hE.out.2.1 (.slice (some ⟨w.heap.size + 1 + 1, 0, none⟩) 0 0) (0) ([]) rfl (by simp) hr0.out _ (x.vKids) rfl hkA.out (by omega) (by first | omega | (simp; omega) | simp) ?_)
 intro v1 w1 hown1 hgrow1 hnn1
 obtain ⟨g1, cap1, rfl⟩ := nonnil_row hown1 hnn1
 have hb1 : Below (w.heap.size + 2) (((w.alloc (.cells (List.toArray (cNd x a3 cap3 a5 cap5)) 73)).alloc (.cells (List.toArray [.int .i64 0, .string ByteArray.empty, .int .i64 0, .slice none 0 0, .int .i64 0, .slice none 0 0]) 73)).alloc (.cells #[] 2)) w1 := (Below.refl _ _).grown hgrow1 (by omega) (own_block2 hr0.out)
 have hB1 : Below w.heap.size w w1 := hbA.trans (hb1.mono (by omega))
 have bX1 : Box w1 w.heap.size (cNd x a3 cap3 a5 cap5) 73 := bX0.out.below hb1 (by omega)
 have bZ1 : Hid (Box w1 (w.heap.size + 1) [.int .i64 0, .string ByteArray.empty, .int .i64 0, .slice none 0 0, .int .i64 0, .slice none 0 0] 73) := bZ0.out.below hb1 (by omega)
 have hz1 := hb1.size
 have hown1' : Hid (w1.ownsRow (w.heap.size + 2) 2 1 (.slice (some ⟨g1, 0, none⟩) x.vKids.length cap1) x.vKids.length (x.vKids.map fun n => .int .i64 n)) := by show World.ownsRow _ _ _ _ _ _ _; simpa using hown1
 have hown1c : Hid (w1.ownsRow (w.heap.size + 2) 2 1 (.slice (some ⟨g1, 0, none⟩) x.vKids.length cap1) x.vKids.length (x.vKids.map fun n => .int .i64 n)) := hown1'
 have hg1 : w.heap.size + 2 ≤ g1 ∧ g1 < w1.heap.size := ⟨own_block2 hown1'.out g1 rfl, row_lt hown1'.out _ rfl⟩
 have uf := bX1.unfrozen 3
 have c3 := bX1.cell 3 rfl
 have bX2 : Hid (Box (w1.setCell ⟨w.heap.size, 3, none⟩ (.slice (some ⟨g1, 0, none⟩) x.vKids.length cap1)) w.heap.size (cNd x (some ⟨g1, 0, none⟩) cap1 a5 cap5) 73) := bX1.set _
 have bX3 : Hid (Box ((w1.setCell ⟨w.heap.size, 3, none⟩ (.slice (some ⟨g1, 0, none⟩) x.vKids.length cap1)).alloc (.cells #[] 89)) w.heap.size (cNd x (some ⟨g1, 0, none⟩) cap1 a5 cap5) 73) := bX2.out.alloc _
 have hBS : Below w.heap.size w (w1.setCell ⟨w.heap.size, 3, none⟩ (.slice (some ⟨g1, 0, none⟩) x.vKids.length cap1)) := hB1.setCell (by simp) _
 have hBB : Below w.heap.size w ((w1.setCell ⟨w.heap.size, 3, none⟩ (.slice (some ⟨g1, 0, none⟩) x.vKids.length cap1)).alloc (.cells #[] 89)) := hBS.alloc hBS.size _
 have bZ3 : Hid (Box ((w1.setCell ⟨w.heap.size, 3, none⟩ (.slice (some ⟨g1, 0, none⟩) x.vKids.length cap1)).alloc (.cells #[] 89)) (w.heap.size + 1) [.int .i64 0, .string ByteArray.empty, .int .i64 0, .slice none 0 0, .int .i64 0, .slice none 0 0] 73) := (bZ1.out.other (by omega) _).alloc _
 have hr2 : Hid (((w1.setCell ⟨w.heap.size, 3, none⟩ (.slice (some ⟨g1, 0, none⟩) x.vKids.length cap1)).alloc (.cells #[] 89)).ownsRow w1.heap.size 89 5 (.slice (some ⟨w1.heap.size, 0, none⟩) 0 0) 0 []) := by
  have e : (w1.setCell ⟨w.heap.size, 3, none⟩ (.slice (some ⟨g1, 0, none⟩) x.vKids.length cap1)).heap.size = w1.heap.size := by simp [World.setCell]
  have q : ((w1.setCell ⟨w.heap.size, 3, none⟩ (.slice (some ⟨g1, 0, none⟩) x.vKids.length cap1)).alloc (.cells #[] 89)).heap[(w1.setCell ⟨w.heap.size, 3, none⟩ (.slice (some ⟨g1, 0, none⟩) x.vKids.length cap1)).heap.size]? = some (.cells #[] 89) := (MapKept.heap_alloc (w1.setCell ⟨w.heap.size, 3, none⟩ (.slice (some ⟨g1, 0, none⟩) x.vKids.length cap1)) _).1
  rw [e] at q
  exact ⟨rfl, Or.inr ⟨_, _, #[], rfl, Nat.le_refl _, q, Nat.le_refl _, Nat.zero_le _, rfl, rfl⟩⟩
 have hown1b : Hid (((w1.setCell ⟨w.heap.size, 3, none⟩ (.slice (some ⟨g1, 0, none⟩) x.vKids.length cap1)).alloc (.cells #[] 89)).ownsRow (w.heap.size + 2) 2 1 (.slice (some ⟨g1, 0, none⟩) x.vKids.length cap1) x.vKids.length (x.vKids.map fun n => .int .i64 n)) := (row_keep2 hown1'.out (fun q hq => by simp only [Value.ownBlock, Option.some.injEq] at hq; subst hq; exact Below.heap_setCell _ _ _ _ (by simp; omega))).alloc _
 have hcB : Hid (CssAt 5 ListenerAt ((w1.setCell ⟨w.heap.size, 3, none⟩ (.slice (some ⟨g1, 0, none⟩) x.vKids.length cap1)).alloc (.cells #[] 89)) lo a5 x.vListeners css) := by
  obtain ⟨q1, q2, q3, q4, q5⟩ := hcss'.out
  exact ⟨q1, q2, fun i hi hi' => q3 i hi hi', q4, fun ad hq j u hu => cell_on hBB (q5 ad hq j u hu)⟩
 have d5 := bX3.out.cell 5 rfl
 have hzB : ((w1.setCell ⟨w.heap.size, 3, none⟩ (.slice (some ⟨g1, 0, none⟩) x.vKids.length cap1)).alloc (.cells #[] 89)).heap.size = w1.heap.size + 1 := by simp [World.setCell]
 clear hown1 hgrow1 hnn1 bX0 bZ0 hr0 hkA hbA bX1 bZ1 hown1'
 go_wp2_with (at_builtin; refine wpList_append_rows rfl _ _ 71 rfl (w1.heap.size) lo 89 iL _ 48 Tryz.underlying71 hIL.out hEL.out.1 hEL.out.2.2 hEL.out.2.1 rfl (by decide) (.slice (some ⟨w1.heap.size, 0, none⟩) 0 0) (0) ([]) rfl (by simp) hr2.out a5 cap5 x.vListeners css rfl hcB.out hone.out (by unfold maxLen; omega) (by omega) (by first | omega | (simp; omega) | simp) ?_)
 intro v2 w2 hown2 hgrow2 hnn2 hat2
 obtain ⟨g2, cap2, rfl⟩ := nonnil_row hown2 hnn2
 have hb2 : Below w1.heap.size ((w1.setCell ⟨w.heap.size, 3, none⟩ (.slice (some ⟨g1, 0, none⟩) x.vKids.length cap1)).alloc (.cells #[] 89)) w2 := (Below.refl _ _).grown hgrow2 (by omega) (own_block2 hr2.out)
 have hB2 : Below w.heap.size w w2 := hBB.trans (hb2.mono (by omega))
 have bX4 : Box w2 w.heap.size (cNd x (some ⟨g1, 0, none⟩) cap1 a5 cap5) 73 := bX3.out.below hb2 (by omega)
 have bZ4 : Box w2 (w.heap.size + 1) [.int .i64 0, .string ByteArray.empty, .int .i64 0, .slice none 0 0, .int .i64 0, .slice none 0 0] 73 := bZ3.out.below hb2 (by omega)
 have hz2 := hb2.size
 have hownK : Hid (w2.ownsRow (w.heap.size + 2) 2 1 (.slice (some ⟨g1, 0, none⟩) x.vKids.length cap1) x.vKids.length (x.vKids.map fun n => .int .i64 n)) := row_keep2 hown1b.out (fun q hq => by simp only [Value.ownBlock, Option.some.injEq] at hq; subst hq; exact hb2.block _ (by omega))
 have hownL : Hid (w2.ownsRow w1.heap.size 89 5 (.slice (some ⟨g2, 0, none⟩) x.vListeners.length cap2) x.vListeners.length css.flatten) := by show World.ownsRow _ _ _ _ _ _ _; simpa using hown2
 have uf5 := bX4.unfrozen 5
 have ufz := bZ4.unfrozen
 have bX5 : Box (w2.setCell ⟨w.heap.size, 5, none⟩ (.slice (some ⟨g2, 0, none⟩) x.vListeners.length cap2)) w.heap.size (cNd x (some ⟨g1, 0, none⟩) cap1 (some ⟨g2, 0, none⟩) cap2) 73 := bX4.set _
 have e0 := bX5.cell 0 rfl
 have e1 := bX5.cell 1 rfl
 have e2 := bX5.cell 2 rfl
 have e3 := bX5.cell 3 rfl
 have e4 := bX5.cell 4 rfl
 have e5 := bX5.cell 5 rfl
 have z0 := bZ4.cell 0 rfl
 have z1 := bZ4.cell 1 rfl
 have z2 := bZ4.cell 2 rfl
 have z3 := bZ4.cell 3 rfl
 have z4 := bZ4.cell 4 rfl
 have z5 := bZ4.cell 5 rfl
 have x5 := bX4.cell 5 rfl
 clear hown2 hgrow2 hnn2 hat2 bX3 bZ3 hr2 hcB
 have bF : Box (((((((w2.setCell ⟨w.heap.size, 5, none⟩ (.slice (some ⟨g2, 0, none⟩) x.vListeners.length cap2)).setCell ⟨w.heap.size + 1, 0, none⟩ (.int .i64 x.vId)).setCell ⟨w.heap.size + 1, 1, none⟩ (.string x.vTag)).setCell ⟨w.heap.size + 1, 2, none⟩ (.int .i64 x.vParent)).setCell ⟨w.heap.size + 1, 3, none⟩ (.slice (some ⟨g1, 0, none⟩) x.vKids.length cap1)).setCell ⟨w.heap.size + 1, 4, none⟩ (.int .i64 x.vWrapper)).setCell ⟨w.heap.size + 1, 5, none⟩ (.slice (some ⟨g2, 0, none⟩) x.vListeners.length cap2)) (w.heap.size + 1) (cNd x (some ⟨g1, 0, none⟩) cap1 (some ⟨g2, 0, none⟩) cap2) 73 := (((((((bZ4.other (by omega) _).set _).set _).set _).set _).set _).set _)
 have hKF : ∀ b, w.heap.size + 2 ≤ b → (((((((w2.setCell ⟨w.heap.size, 5, none⟩ (.slice (some ⟨g2, 0, none⟩) x.vListeners.length cap2)).setCell ⟨w.heap.size + 1, 0, none⟩ (.int .i64 x.vId)).setCell ⟨w.heap.size + 1, 1, none⟩ (.string x.vTag)).setCell ⟨w.heap.size + 1, 2, none⟩ (.int .i64 x.vParent)).setCell ⟨w.heap.size + 1, 3, none⟩ (.slice (some ⟨g1, 0, none⟩) x.vKids.length cap1)).setCell ⟨w.heap.size + 1, 4, none⟩ (.int .i64 x.vWrapper)).setCell ⟨w.heap.size + 1, 5, none⟩ (.slice (some ⟨g2, 0, none⟩) x.vListeners.length cap2)).heap[b]? = w2.heap[b]? := fun b hb => by
  rw [Below.heap_setCell _ _ _ _ (by simp; omega), Below.heap_setCell _ _ _ _ (by simp; omega), Below.heap_setCell _ _ _ _ (by simp; omega), Below.heap_setCell _ _ _ _ (by simp; omega), Below.heap_setCell _ _ _ _ (by simp; omega), Below.heap_setCell _ _ _ _ (by simp; omega), Below.heap_setCell _ _ _ _ (by simp; omega)]
 have hBF : Hid (Below w.heap.size w (((((((w2.setCell ⟨w.heap.size, 5, none⟩ (.slice (some ⟨g2, 0, none⟩) x.vListeners.length cap2)).setCell ⟨w.heap.size + 1, 0, none⟩ (.int .i64 x.vId)).setCell ⟨w.heap.size + 1, 1, none⟩ (.string x.vTag)).setCell ⟨w.heap.size + 1, 2, none⟩ (.int .i64 x.vParent)).setCell ⟨w.heap.size + 1, 3, none⟩ (.slice (some ⟨g1, 0, none⟩) x.vKids.length cap1)).setCell ⟨w.heap.size + 1, 4, none⟩ (.int .i64 x.vWrapper)).setCell ⟨w.heap.size + 1, 5, none⟩ (.slice (some ⟨g2, 0, none⟩) x.vListeners.length cap2))) := ((((((hB2.setCell (by simp) _).setCell (by simp) _).setCell (by simp) _).setCell (by simp) _).setCell (by simp) _).setCell (by simp) _).setCell (by simp) _
 obtain ⟨f3, ho3, hlo3⟩ := seqOwn_of_row hown1c.out hints.out
 have hlt3 := SeqOwn.lt intOwn_lt ho3
 have ho3' : SeqOwn 1 IntOwn (((((((w2.setCell ⟨w.heap.size, 5, none⟩ (.slice (some ⟨g2, 0, none⟩) x.vListeners.length cap2)).setCell ⟨w.heap.size + 1, 0, none⟩ (.int .i64 x.vId)).setCell ⟨w.heap.size + 1, 1, none⟩ (.string x.vTag)).setCell ⟨w.heap.size + 1, 2, none⟩ (.int .i64 x.vParent)).setCell ⟨w.heap.size + 1, 3, none⟩ (.slice (some ⟨g1, 0, none⟩) x.vKids.length cap1)).setCell ⟨w.heap.size + 1, 4, none⟩ (.int .i64 x.vWrapper)).setCell ⟨w.heap.size + 1, 5, none⟩ (.slice (some ⟨g2, 0, none⟩) x.vListeners.length cap2)) (.slice (some ⟨g1, 0, none⟩) x.vKids.length cap1) x.vKids f3 := ho3.stays intOwn_stays (fun b q => by
  have q1 := hlo3 b q
  have q2 := hlt3 b q
  rw [hKF b q1, hb2.block b (by omega), Below.heap_alloc _ _ b (by simp [World.setCell]; omega), Below.heap_setCell _ _ _ _ (by simp; omega)])
 obtain ⟨bL, ho5, hlo5⟩ := growP_of_css hcss'.out (row_keep2 hownL.out (fun q hq => by simp only [Value.ownBlock, Option.some.injEq] at hq; subst hq; exact hKF _ (by have := own_block2 hownL.out g2 rfl; omega)) : (((((((w2.setCell ⟨w.heap.size, 5, none⟩ (.slice (some ⟨g2, 0, none⟩) x.vListeners.length cap2)).setCell ⟨w.heap.size + 1, 0, none⟩ (.int .i64 x.vId)).setCell ⟨w.heap.size + 1, 1, none⟩ (.string x.vTag)).setCell ⟨w.heap.size + 1, 2, none⟩ (.int .i64 x.vParent)).setCell ⟨w.heap.size + 1, 3, none⟩ (.slice (some ⟨g1, 0, none⟩) x.vKids.length cap1)).setCell ⟨w.heap.size + 1, 4, none⟩ (.int .i64 x.vWrapper)).setCell ⟨w.heap.size + 1, 5, none⟩ (.slice (some ⟨g2, 0, none⟩) x.vListeners.length cap2)).ownsRow _ _ _ _ _ _)
 have hnd : (f3 ++ (gfs (.slice (some ⟨g2, 0, none⟩) x.vListeners.length cap2) bL)).Nodup := nodup_two ho3.nodup ho5.nodups hlt3 hlo5
 have hlow : ∀ b ∈ f3 ++ (gfs (.slice (some ⟨g2, 0, none⟩) x.vListeners.length cap2) bL), w.heap.size ≤ b := fun b q => by
  rcases List.mem_append.1 q with r | r
  · have := hlo3 b r; omega
  · have := hlo5 b r; omega
 have hfin : Hid (NodeP (((((((w2.setCell ⟨w.heap.size, 5, none⟩ (.slice (some ⟨g2, 0, none⟩) x.vListeners.length cap2)).setCell ⟨w.heap.size + 1, 0, none⟩ (.int .i64 x.vId)).setCell ⟨w.heap.size + 1, 1, none⟩ (.string x.vTag)).setCell ⟨w.heap.size + 1, 2, none⟩ (.int .i64 x.vParent)).setCell ⟨w.heap.size + 1, 3, none⟩ (.slice (some ⟨g1, 0, none⟩) x.vKids.length cap1)).setCell ⟨w.heap.size + 1, 4, none⟩ (.int .i64 x.vWrapper)).setCell ⟨w.heap.size + 1, 5, none⟩ (.slice (some ⟨g2, 0, none⟩) x.vListeners.length cap2)) (cNd x (some ⟨g1, 0, none⟩) cap1 (some ⟨g2, 0, none⟩) cap2) x (f3 ++ (gfs (.slice (some ⟨g2, 0, none⟩) x.vListeners.length cap2) bL)) ∧ (f3 ++ (gfs (.slice (some ⟨g2, 0, none⟩) x.vListeners.length cap2) bL)).Nodup ∧ ∀ b ∈ f3 ++ (gfs (.slice (some ⟨g2, 0, none⟩) x.vListeners.length cap2) bL), w.heap.size ≤ b) := ⟨⟨_, _, f3, bL, _, rfl, ho3', ho5, hrr.out.1, hrr.out.2.1, hrr.out.2.2.1, hrr.out.2.2.2, rfl⟩, hnd, hlow⟩
 have f0 := bF.cell 0 rfl
 have f1 := bF.cell 1 rfl
 have f2 := bF.cell 2 rfl
 have f3' := bF.cell 3 rfl
 have f4 := bF.cell 4 rfl
 have f5' := bF.cell 5 rfl
 clear hlow hnd ho5 ho3' ho3 hlt3 hlo3 hlo5 hKF bF
 go_wp2_with fail
 refine bodyPost_ret (v := .agg (List.toArray (cNd x (some ⟨g1, 0, none⟩) cap1 (some ⟨g2, 0, none⟩) cap2))) (by simp [results, Tryz.results74, go_sem, f0, f1, f2, f3', f4, f5']) rfl ?_
 exact ⟨⟨(cNd x (some ⟨g1, 0, none⟩) cap1 (some ⟨g2, 0, none⟩) cap2), f3 ++ (gfs (.slice (some ⟨g2, 0, none⟩) x.vListeners.length cap2) bL), rfl, hfin.out⟩, hBF.out⟩
end Go.Proofs.YtdnembnlomnceaaGreat
