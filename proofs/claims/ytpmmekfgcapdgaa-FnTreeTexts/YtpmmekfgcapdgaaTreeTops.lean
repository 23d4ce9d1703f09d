/- What DrawSizeOf and DrawTreeOk tell: some tree that lies in memory. -/
import Derived.Test.YtpmmekfgcapdgaaTreeDraw
namespace Go.Proofs.Ytpmmekfgcapdgaa
open Go.RowKit Go.Deep
def tags3 : List ByteArray := [⟨#[]⟩, ⟨#[65]⟩, ⟨#[97, 98, 99, 100, 101, 102, 103]⟩]
set_option maxHeartbeats 2000000 in
theorem drawTreeOk_any {w : World} {a : Option Addr} {n cap : Nat} (h : CodeAt w a n) :
    Calls Try.prog 19 #[.slice a n cap] w fun e w' => (∃ (t k : Value) (x : TD), e = .returned (.agg #[t, k]) ∧ TreeAt w' (w.heap.size + 1) 5 t k x) ∧ Below w.heap.size w w' := by
  have h' : Hid (CodeAt w a n) := h
  clear h
  go_enter Try.func19, Try.ntmps19
  go_wp2_with fail
  have hbR : Hid (Below w.heap.size w (w.alloc (.cells #[.string ⟨#[]⟩, .slice none 0 0] 26))) := (Below.refl _ _).alloc (Nat.le_refl _) _
  have bR : Hid (Box (w.alloc (.cells #[.string ⟨#[]⟩, .slice none 0 0] 26)) w.heap.size resT 26) := Box.new w _ _
  refine (open_any (CodeAt.below h'.out hbR.out)).mono ?_
  rintro e w1 ⟨g, rfl, hg, hr1, hb1⟩
  have hr1' : Hid (RdAt w1 g a n cap) := hr1
  have hg' : w.heap.size + 1 ≤ g := by simpa using hg
  have hB1 : Hid (Below w.heap.size w w1) := hbR.out.trans (hb1.mono hbR.out.size)
  have bR1 : Hid (Box w1 w.heap.size resT 26) := bR.out.below hb1 bR.out.lt
  have hlt1 := hr1.lt
  clear hr1 hb1 hg
  go_wp2_with fail
  refine (drT_all 5 (by omega) (by omega) w1 g a n cap 0 hr1'.out (by omega)).mono ?_
  rintro e w2 ⟨cs, x, fs, rfl, hok, hnd, hlo, hr2, hg2⟩
  have hB2 : Hid (Below w.heap.size w w2) := below_grown hB1.out (by omega) hg2
  have bR2 : Hid (Box w2 w.heap.size resT 26) := box_other bR1.out (by omega) hg2
  have hflt : Hid (∀ b ∈ fs, w1.heap.size + 1 ≤ b ∧ b < w2.heap.size) := fun b hb => ⟨hlo b hb, TreeOwn_lt 5 _ _ _ _ hok b hb⟩
  obtain ⟨s, k, e, hs1, hs2, s3⟩ := hok
  have s3' : Hid (SeqOwn 2 (TreeOwn 4) w2 k (kidsOf x) fs) := s3
  have hs1' : Hid (s.size ≤ maxLen) := hs1
  have hs2' : Hid (tagOf x = s.data.toList) := hs2
  have hr2' : Hid (RdAt w2 g a n cap) := hr2
  have hz2 : w1.heap.size ≤ w2.heap.size := hg2.size
  obtain ⟨y1, y2, y3⟩ := s3.form
  subst y3 e
  clear hr2 hg2 hnd hlo s3 hs1 hs2
  go_wp2_with fail
  have hbA : Hid (Below w2.heap.size w2 (w2.alloc (.cells #[.string s, .slice y1 (kidsOf x).length y2] 26))) := (Below.refl _ _).alloc (Nat.le_refl _) _
  have bT3 : Hid (Box (w2.alloc (.cells #[.string s, .slice y1 (kidsOf x).length y2] 26)) w2.heap.size [.string s, .slice y1 (kidsOf x).length y2] 26) := Box.new w2 _ _
  refine (once_any (RdAt.below hr2'.out hbA.out) 8 (by omega) (by omega)).mono ?_
  rintro e w3 ⟨v, rfl, hr3, hg3⟩
  have hz3 : w2.heap.size + 1 ≤ w3.heap.size := by have := hg3.size; simpa using this
  have hr3' : Hid (RdAt w3 g a n cap) := hr3
  have hB3 : Hid (Below w.heap.size w w3) := below_grown (hB2.out.alloc hB2.out.size _) (by omega) hg3
  have bT : Hid (Box w3 w2.heap.size [.string s, .slice y1 (kidsOf x).length y2] 26) := box_other bT3.out (by omega) hg3
  have bR3 : Hid (Box w3 w.heap.size resT 26) := box_other (bR2.out.alloc _) (by omega) hg3
  have s4 : Hid (SeqOwn 2 (TreeOwn 4) w3 (.slice y1 (kidsOf x).length y2) (kidsOf x) fs) := s3'.out.stays (TreeOwn_stays 4) (fun b hb => by have q := hflt.out b hb; rw [hg3.block b (by simp; omega) (fun e => by injection e with e; omega), Below.heap_alloc _ _ _ (by omega)])
  have hw2 : w.heap.size + 2 ≤ w2.heap.size := by omega
  clear hr3 hg3 bT3 hbA hr2' bR2 hB2 s3' bR1 hB1 hr1' bR hbR
  cases v with
  | false =>
    have r0 := bR3.out.cell 0 rfl
    have r1 := bR3.out.cell 1 rfl
    have fR := bR3.out.unfrozen
    have c0 := bT.out.cell 0 rfl
    have c1 := bT.out.cell 1 rfl
    go_wp2_with fail
    refine bodyPost_ret (v := .agg #[.string s, .slice y1 (kidsOf x).length y2]) (by simp [results, Try.results19, go_sem, r0, r1]) rfl ⟨⟨_, _, x, rfl, ?_⟩, ?_⟩
    · obtain ⟨t, k, e, q⟩ := TreeOwn_at (lo := w.heap.size + 1) 5 (putCells w3 w.heap.size 0 [.string s, .slice y1 (kidsOf x).length y2]) _ x fs ⟨s, _, rfl, hs1'.out, hs2'.out, s4.out.stays (TreeOwn_stays 4) (fun b hb => putCells_other _ _ _ _ _ (by have := hflt.out b hb; omega))⟩ (fun b hb => by have := hflt.out b hb; omega)
      injection e with e1 e2; injection e2 with e2 _; subst e1 e2; exact q
    · exact putCells_below [.string s, .slice y1 (kidsOf x).length y2] _ _ _ w.heap.size 0 (Nat.le_refl _) hB3.out
  | true =>
    have hbB : Hid (Below w3.heap.size w3 (w3.alloc (.cells (tags3.map Value.string).toArray 9))) := (Below.refl _ _).alloc (Nat.le_refl _) _
    have bx0 : Hid (Box (w3.alloc (.cells (tags3.map Value.string).toArray 9)) w3.heap.size (tags3.map Value.string) 9) := Box.new w3 _ _
    go_wp2_with fail
    refine (below_any (RdAt.below hr3'.out hbB.out) 3 (by omega) (by omega)).mono ?_
    rintro e w4 ⟨u, rfl, u0, u1, hr4, hg4⟩
    have hz4 : w3.heap.size + 1 ≤ w4.heap.size := by have := hg4.size; simpa using this
    have hg3lt : g < w3.heap.size := by omega
    have hB4 : Hid (Below w.heap.size w w4) := below_grown (hB3.out.alloc hB3.out.size _) (by omega) hg4
    have bT4 : Hid (Box w4 w2.heap.size [.string s, .slice y1 (kidsOf x).length y2] 26) := box_other (bT.out.alloc _) (by omega) hg4
    have bR4 : Hid (Box w4 w.heap.size resT 26) := box_other (bR3.out.alloc _) (by omega) hg4
    have bx1 : Hid (Box w4 w3.heap.size (tags3.map Value.string) 9) := box_other bx0.out (by omega) hg4
    have s5 : Hid (SeqOwn 2 (TreeOwn 4) w4 (.slice y1 (kidsOf x).length y2) (kidsOf x) fs) := s4.out.stays (TreeOwn_stays 4) (fun b hb => by have q := hflt.out b hb; rw [hg4.block b (by simp; omega) (fun e => by injection e with e; omega), Below.heap_alloc _ _ _ (by omega)])
    obtain ⟨k, rfl⟩ := Int.eq_ofNat_of_zero_le u0
    have hk : k < tags3.length := by show k < 3; omega
    have hc := box_str bx1.out k hk
    have hsz : Hid (tags3[k].size ≤ 7) := mem_le (by decide) k hk
    generalize tags3[k] = tag at hc hsz
    have hk3 : (k : Int) < 3 := by omega
    clear hr4 hg4 bx0 bx1 bT bR3 s4 hbB
    have r0 := bR4.out.cell 0 rfl
    have r1 := bR4.out.cell 1 rfl
    have fR := bR4.out.unfrozen
    have c0 := bT4.out.cell 0 rfl
    have c1 := bT4.out.cell 1 rfl
    have fT := bT4.out.unfrozen
    have hne : ¬ w2.heap.size = w.heap.size := by omega
    go_wp2_with fail
    refine bodyPost_ret (v := .agg #[.string tag, .slice y1 (kidsOf x).length y2]) (by simp [results, Try.results19, go_sem, r0, r1]) rfl ⟨⟨_, _, mkT tag (kidsOf x), rfl, ?_⟩, ?_⟩
    · obtain ⟨t, k, e, q⟩ := TreeOwn_at (lo := w.heap.size + 1) 5 (putCells (w4.setCell ⟨w2.heap.size, 0, none⟩ (.string tag)) w.heap.size 0 [.string tag, .slice y1 (kidsOf x).length y2]) _ (mkT tag (kidsOf x)) fs ⟨tag, _, rfl, by have := hsz.out; unfold maxLen; omega, rfl, s5.out.stays (TreeOwn_stays 4) (fun b hb => by have := hflt.out b hb; rw [putCells_other _ _ _ _ _ (by omega)]; exact set_other (by omega) _)⟩ (fun b hb => by have := hflt.out b hb; omega)
      injection e with e1 e2; injection e2 with e2 _; subst e1 e2; exact q
    · exact putCells_below [.string tag, .slice y1 (kidsOf x).length y2] _ _ _ w.heap.size 0 (Nat.le_refl _) (putCells_below [.string tag] _ _ _ w2.heap.size 0 (by omega) hB4.out)
end Go.Proofs.Ytpmmekfgcapdgaa
