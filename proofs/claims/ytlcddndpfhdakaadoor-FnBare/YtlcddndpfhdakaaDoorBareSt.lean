/- A mark without its texts and attributes: what lies in memory while its kids are gone through. -/
import Derived.Test.YtlcddndpfhdakaaDoorTreeO
import Derived.Test.YtlcddndpfhdakaaDoorGrowK
import Derived.Test.YtlcddndpfhdakaaDoorMarkPlain
namespace Go.Proofs.YtlcddndpfhdakaaDoor
open Go.RowKit Go.Deep
/-- a mark's tags alone, as a tree -/
def bareD : Nat → MarkD → TD
  | 0, _ => mkT ⟨#[]⟩ []
  | n + 1, x => mkT x.vTag ((x.vKids.filter fun k => !isT k).map (bareD n))
/-- the bare kids among the first j -/
def bareK (n : Nat) (ks : List MarkD) (j : Nat) : List TD := ((ks.take j).filter fun k => !isT k).map (bareD n)
theorem bareK_zero (n : Nat) (ks : List MarkD) : bareK n ks 0 = [] := rfl
theorem bareK_text {n : Nat} {ks : List MarkD} {j : Nat} (h : j < ks.length) (hi : isT ks[j] = true) : bareK n ks (j + 1) = bareK n ks j := by
  have e : ks.take (j + 1) = ks.take j ++ [ks[j]] := (List.take_append_getElem h).symm
  unfold bareK
  rw [e, List.filter_append, List.map_append]
  simp [hi]
theorem bareK_tag {n : Nat} {ks : List MarkD} {j : Nat} (h : j < ks.length) (hi : isT ks[j] = false) : bareK n ks (j + 1) = bareK n ks j ++ [bareD n ks[j]] := by
  have e : ks.take (j + 1) = ks.take j ++ [ks[j]] := (List.take_append_getElem h).symm
  unfold bareK
  rw [e, List.filter_append, List.map_append]
  simp [hi]
theorem bareK_all {n : Nat} {x : MarkD} {j : Nat} (h : ¬ j < x.vKids.length) : mkT x.vTag (bareK n x.vKids j) = bareD (n + 1) x := by
  unfold bareK
  rw [List.take_of_length_le (by omega)]
  rfl
theorem bareK_len (n : Nat) (ks : List MarkD) (j : Nat) : (bareK n ks j).length ≤ j := by
  unfold bareK
  rw [List.length_map]
  exact Nat.le_trans (List.length_filter_le _ _) (by rw [List.length_take]; omega)
theorem mzF_cnt {f : MarkD → Int → Option Int} (hf : ∀ d room m, f d room = some m → 1 ≤ m ∧ m ≤ room) : ∀ (ks : List MarkD) (p : Bool) (room size m : Int), 0 ≤ size → mzF f p ks room size = some m → size + (ks.length : Int) ≤ m ∧ ∀ k ∈ ks, ∃ r q, r ≤ room ∧ f k r = some q := by
  intro ks
  induction ks with
  | nil => intro p room size m _ h; simp [mzF] at h; exact ⟨by simp; omega, fun k hk => by cases hk⟩
  | cons k ks ih =>
    intro p room size m hs h
    unfold mzF at h
    split at h
    · cases h
    · rename_i q hq
      split at h
      · cases h
      · have h1 := hf _ _ _ hq
        obtain ⟨h2, h3⟩ := ih _ _ _ _ (by omega) h
        refine ⟨by simp only [List.length_cons]; omega, fun k' hk => ?_⟩
        rcases List.mem_cons.1 hk with rfl | hk
        · exact ⟨_, _, by omega, hq⟩
        · exact h3 k' hk
/-- no more than thirty kids anywhere -/
def kidsB : Nat → MarkD → Prop
  | 0, _ => True
  | n + 1, x => x.vKids.length ≤ 30 ∧ ∀ k ∈ x.vKids, kidsB n k
theorem kidsB_of : ∀ (n : Nat) (x : MarkD) (room m : Int), room ≤ 30 → mzD n x room = some m → kidsB n x := by
  intro n
  induction n with
  | zero => intro x room m _ _; trivial
  | succ n ih =>
    intro x room m hr h
    have hm := mzD_range _ _ _ _ h
    unfold mzD at h
    split at h
    · cases h
    · obtain ⟨h1, h2⟩ := mzF_cnt (fun d room m h => mzD_range n d room m h) _ _ _ _ _ (by omega) h
      refine ⟨by omega, fun k hk => ?_⟩
      obtain ⟨r, q, hr2, hq⟩ := h2 k hk
      exact ih k r q (by omega) hq
abbrev resB : List Value := [.string ⟨#[]⟩, .slice none 0 0]
/-- the mark in its box, what is handed back behind it, the tree behind that -/
def KbSt (n : Nat) (w : World) (cm : List Value) (tag : ByteArray) (vk : Value) (xs : List TD) (wr : World) : Prop :=
  (∃ bss css, GrowOwn 36 2 (TreeO n) (w.heap.size + 3) wr vk xs bss css) ∧ Box wr (w.heap.size + 2) [.string tag, vk] 36 ∧ Box wr (w.heap.size + 1) resB 36 ∧ Box wr w.heap.size cm 27 ∧ Below w.heap.size w wr ∧ w.heap.size + 3 ≤ wr.heap.size
theorem KbSt.below {n : Nat} {w : World} {cm : List Value} {tag : ByteArray} {vk : Value} {xs : List TD} {wr w2 : World} (h : KbSt n w cm tag vk xs wr) (hb : Below wr.heap.size wr w2) : KbSt n w cm tag vk xs w2 := by
  obtain ⟨⟨bss, css, h1⟩, h2, h3, h4, h5, h6⟩ := h
  have s := hb.size
  exact ⟨⟨bss, css, h1.stay (TreeO_stays n) s (fun b _ q2 => hb.block b q2)⟩, h2.below hb h2.lt, h3.below hb h3.lt, h4.below hb h4.lt, h5.trans (hb.mono h5.size), by omega⟩
theorem KbSt.step {n : Nat} {w : World} {cm : List Value} {n1 capn gg : Nat} {tag : ByteArray} {vk : Value} {xs : List TD} {wr w1 w3 : World} {o : Obj} {x : TD} {cs : List Value} {fs : List Nat} {css : List (List Value)} {bss : List (List Nat)} (h : KbSt n w cm tag vk xs wr) (hgr : GrowOwn 36 2 (TreeO n) (w.heap.size + 3) wr vk xs bss css) (hb1 : Below wr.heap.size wr w1)
    (hr : TreeO n w1 cs x fs) (hnd : fs.Nodup) (hlo : ∀ b ∈ fs, wr.heap.size ≤ b) (hcl : cs.length = 2) (hn1 : n1 = xs.length + 1) (hown : w3.ownsRow (w.heap.size + 3) 36 2 (.slice (some ⟨gg, 0, none⟩) n1 capn) n1 (css.flatten ++ cs)) (hgrow : (w1.alloc o).grownBy w3 vk.ownBlock) (hat : vk.ownBlock = some gg ∨ gg = (w1.alloc o).heap.size) :
    KbSt n w cm tag (.slice (some ⟨gg, 0, none⟩) n1 capn) (xs ++ [x]) (w3.setCell ⟨w.heap.size + 2, 1, none⟩ (.slice (some ⟨gg, 0, none⟩) n1 capn)) := by
  obtain ⟨_, h2, h3, h4, h5, h6⟩ := h
  obtain ⟨q1, q2, q4, q5, q6⟩ := grow_fin2 (f := 1) (g := w.heap.size) (TreeO_stays n) hgr (grown_of_below hb1 _) (by omega) (by omega) h6 hcl hr hnd hlo (TreeO_lt n _ _ _ _ hr) hn1 hown hgrow hat h2 (grown_of_below h5 _) (by omega)
  exact ⟨⟨_, _, q1⟩, q2, (q5 _ (by omega) (by omega)).trans (h3.below hb1 h3.lt), (q5 _ (by omega) (by omega)).trans (h4.below hb1 h4.lt), below_grown (Below.refl _ _) (Nat.le_refl _) q4, q6⟩
theorem KbSt.done {n : Nat} {w : World} {cm : List Value} {tag : ByteArray} {vk : Value} {xs : List TD} {wr : World} (h : KbSt n w cm tag vk xs wr) (ht : tag.size ≤ maxLen) :
    ∃ fs : List Nat, TreeO (n + 1) (putCells wr (w.heap.size + 1) 0 [.string tag, vk]) [.string tag, vk] (mkT tag xs) fs ∧ fs.Nodup ∧ (∀ b ∈ fs, w.heap.size + 1 ≤ b) ∧ Below w.heap.size w (putCells wr (w.heap.size + 1) 0 [.string tag, vk]) := by
  obtain ⟨⟨bss, css, h1⟩, h2, h3, h4, h5, h6⟩ := h
  obtain ⟨f3, q3, q3b⟩ := h1.done
  refine ⟨f3, ⟨vk, f3, by rw [mkT_str], ?_, by rw [mkT_str]; exact ht, rfl⟩, q3.nodup, fun b q => by have := q3b b q; omega, ?_⟩
  · rw [mkT_kids]; exact q3.stays (TreeO_stays n) (fun b q => putCells_other _ _ _ _ _ (by have := q3b b q; omega))
  · exact putCells_below [.string tag, vk] _ _ _ (w.heap.size + 1) 0 (by omega) h5
end Go.Proofs.YtlcddndpfhdakaaDoor
