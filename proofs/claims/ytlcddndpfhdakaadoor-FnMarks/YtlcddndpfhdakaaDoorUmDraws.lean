/- What DrawMarkOk and DrawTextIn tell: some mark that lies in memory. -/
import Derived.Test.YtlcddndpfhdakaaDoorMarkDraw
namespace Go.Proofs.YtlcddndpfhdakaaDoor
open Go.RowKit
set_option maxHeartbeats 1000000 in
theorem drawMarkOk_any {w : World} {a : Option Addr} {n cap : Nat} (h : CodeAt w a n) :
    Calls Tryd.prog 25 #[.slice a n cap] w fun e w' => (∃ (cs : List Value) (x : MarkD), e = .returned (.agg cs.toArray) ∧ MarkAt 4 w' (w.heap.size + 1) cs x) ∧ Below w.heap.size w w' := by
  have h' : Hid (CodeAt w a n) := h
  clear h
  go_enter Tryd.func25, Tryd.ntmps25
  go_wp2_with fail
  have hbR : Hid (Below w.heap.size w (w.alloc (.cells #[.string ⟨#[]⟩, .string ⟨#[]⟩, .slice none 0 0, .slice none 0 0] 27))) := (Below.refl _ _).alloc (Nat.le_refl _) _
  have bR : Hid (Box (w.alloc (.cells #[.string ⟨#[]⟩, .string ⟨#[]⟩, .slice none 0 0, .slice none 0 0] 27)) w.heap.size resC 27) := Box.new w _ _
  refine (open_any (CodeAt.below h'.out hbR.out)).mono ?_
  rintro e w1 ⟨g, rfl, hg, hr1, hb1⟩
  have hr1' : Hid (RdAt w1 g a n cap) := hr1
  have hg' : w.heap.size + 1 ≤ g := by simpa using hg
  have hB1 : Hid (Below w.heap.size w w1) := hbR.out.trans (hb1.mono hbR.out.size)
  have bR1 : Hid (Box w1 w.heap.size resC 27) := bR.out.below hb1 bR.out.lt
  have hlt1 := hr1.lt
  clear hr1 hb1 hg
  go_wp2_with fail
  refine (drM_all 4 (by omega) (by omega) w1 g a n cap 1 hr1'.out (by omega)).mono ?_
  rintro e w2 ⟨cs, x, fs, rfl, hok, hnd, hlo, hr2, hg2⟩
  have hok' : Hid (MarkOwn 4 w2 cs x fs) := hok
  have hlo' : Hid (∀ b ∈ fs, w1.heap.size ≤ b) := hlo
  have hB2 : Hid (Below w.heap.size w w2) := below_grown hB1.out (by omega) hg2
  have bR2 : Hid (Box w2 w.heap.size resC 27) := box_other bR1.out (by omega) hg2
  obtain ⟨q2, q3, f2, f3, e, s2, s3, _⟩ := hok
  obtain ⟨x1, x2, x3⟩ := s2.form
  obtain ⟨y1, y2, y3⟩ := s3.form
  subst x3 y3 e
  clear hr2 hg2 hnd hlo s2 s3
  have r0 := bR2.out.cell 0 rfl
  have r1 := bR2.out.cell 1 rfl
  have r2 := bR2.out.cell 2 rfl
  have r3 := bR2.out.cell 3 rfl
  have fR := bR2.out.unfrozen
  go_wp2_with fail
  refine bodyPost_ret (v := .agg (List.toArray [.string x.vTag, .string x.vText, .slice x1 x.vAttrs.length x2, .slice y1 x.vKids.length y2])) (by simp [results, Tryd.results25, go_sem, r0, r1, r2, r3]) rfl ⟨⟨_, x, rfl, ?_⟩, ?_⟩
  · exact MarkOwn_at 4 _ _ _ _ (MarkOwn_stays 4 w2 (putCells w2 w.heap.size 0 [.string x.vTag, .string x.vText, .slice x1 x.vAttrs.length x2, .slice y1 x.vKids.length y2]) _ _ _ (fun b hb => putCells_other _ _ _ _ _ (by have := hlo'.out b hb; omega)) hok'.out) (fun b hb => by have := hlo'.out b hb; omega)
  · exact putCells_below [.string x.vTag, .string x.vText, .slice x1 x.vAttrs.length x2, .slice y1 x.vKids.length y2] _ _ _ w.heap.size 0 (Nat.le_refl _) hB2.out
set_option maxHeartbeats 1000000 in
theorem drawMarkText_any {w : World} {a : Option Addr} {n cap : Nat} (h : CodeAt w a n) :
    Calls Tryd.prog 7 #[.slice a n cap] w fun e w' => (∃ (cs : List Value) (x : MarkD), e = .returned (.agg cs.toArray) ∧ MarkAt 4 w' (w.heap.size + 1) cs x) ∧ Below w.heap.size w w' := by
  have h' : Hid (CodeAt w a n) := h
  clear h
  go_enter Tryd.func7, Tryd.ntmps7
  go_wp2_with fail
  have hbR : Hid (Below w.heap.size w (w.alloc (.cells #[.string ⟨#[]⟩, .string ⟨#[]⟩, .slice none 0 0, .slice none 0 0] 27))) := (Below.refl _ _).alloc (Nat.le_refl _) _
  have bR : Hid (Box (w.alloc (.cells #[.string ⟨#[]⟩, .string ⟨#[]⟩, .slice none 0 0, .slice none 0 0] 27)) w.heap.size resC 27) := Box.new w _ _
  refine (drawMarkOk_any (CodeAt.below h'.out hbR.out)).mono ?_
  rintro e w2 ⟨⟨cs, x, rfl, hok⟩, hb2⟩
  have hok' : Hid (MarkAt 4 w2 (w.heap.size + 1 + 1) cs x) := by simpa [Hid] using hok
  have hB2 : Hid (Below w.heap.size w w2) := hbR.out.trans (hb2.mono hbR.out.size)
  have bR2 : Hid (Box w2 w.heap.size resC 27) := bR.out.below hb2 bR.out.lt
  obtain ⟨q2, q3, e, s2, s3, _⟩ := MarkAt.opened hok
  obtain ⟨x1, x2, x3⟩ := s2.form
  obtain ⟨y1, y2, y3⟩ := s3.form
  subst x3 y3 e
  clear hb2 hok s2 s3
  have r0 := bR2.out.cell 0 rfl
  have r1 := bR2.out.cell 1 rfl
  have r2 := bR2.out.cell 2 rfl
  have r3 := bR2.out.cell 3 rfl
  have fR := bR2.out.unfrozen
  go_wp2_with fail
  refine bodyPost_ret (v := .agg (List.toArray [.string x.vTag, .string x.vText, .slice x1 x.vAttrs.length x2, .slice y1 x.vKids.length y2])) (by simp [results, Tryd.results7, go_sem, r0, r1, r2, r3]) rfl ⟨⟨_, x, rfl, ?_⟩, ?_⟩
  · exact MarkAt_stays 4 _ _ _ _ _ _ (.lower (by omega)) (MarkAt_stays 4 w2 (putCells w2 w.heap.size 0 [.string x.vTag, .string x.vText, .slice x1 x.vAttrs.length x2, .slice y1 x.vKids.length y2]) _ _ _ _ (kept_put (by omega)) hok'.out)
  · exact putCells_below [.string x.vTag, .string x.vText, .slice x1 x.vAttrs.length x2, .slice y1 x.vKids.length y2] _ _ _ w.heap.size 0 (Nat.le_refl _) hB2.out
set_option maxHeartbeats 1000000 in
theorem drawBare_any {w : World} {a : Option Addr} {n cap : Nat} (h : CodeAt w a n) :
    Calls Tryd.prog 15 #[.slice a n cap] w fun e w' => (∃ (cs : List Value) (x : MarkD), e = .returned (.agg cs.toArray) ∧ MarkAt 4 w' (w.heap.size + 1) cs x) ∧ Below w.heap.size w w' := by
  have h' : Hid (CodeAt w a n) := h
  clear h
  go_enter Tryd.func15, Tryd.ntmps15
  go_wp2_with fail
  have hbR : Hid (Below w.heap.size w (w.alloc (.cells #[.string ⟨#[]⟩, .string ⟨#[]⟩, .slice none 0 0, .slice none 0 0] 27))) := (Below.refl _ _).alloc (Nat.le_refl _) _
  have bR : Hid (Box (w.alloc (.cells #[.string ⟨#[]⟩, .string ⟨#[]⟩, .slice none 0 0, .slice none 0 0] 27)) w.heap.size resC 27) := Box.new w _ _
  refine (drawMarkOk_any (CodeAt.below h'.out hbR.out)).mono ?_
  rintro e w2 ⟨⟨cs, x, rfl, hok⟩, hb2⟩
  have hok' : Hid (MarkAt 4 w2 (w.heap.size + 1 + 1) cs x) := by simpa [Hid] using hok
  have hB2 : Hid (Below w.heap.size w w2) := hbR.out.trans (hb2.mono hbR.out.size)
  have bR2 : Hid (Box w2 w.heap.size resC 27) := bR.out.below hb2 bR.out.lt
  obtain ⟨q2, q3, e, s2, s3, _⟩ := MarkAt.opened hok
  obtain ⟨x1, x2, x3⟩ := s2.form
  obtain ⟨y1, y2, y3⟩ := s3.form
  subst x3 y3 e
  clear hb2 hok s2 s3
  have r0 := bR2.out.cell 0 rfl
  have r1 := bR2.out.cell 1 rfl
  have r2 := bR2.out.cell 2 rfl
  have r3 := bR2.out.cell 3 rfl
  have fR := bR2.out.unfrozen
  go_wp2_with fail
  refine bodyPost_ret (v := .agg (List.toArray [.string x.vTag, .string x.vText, .slice x1 x.vAttrs.length x2, .slice y1 x.vKids.length y2])) (by simp [results, Tryd.results15, go_sem, r0, r1, r2, r3]) rfl ⟨⟨_, x, rfl, ?_⟩, ?_⟩
  · exact MarkAt_stays 4 _ _ _ _ _ _ (.lower (by omega)) (MarkAt_stays 4 w2 (putCells w2 w.heap.size 0 [.string x.vTag, .string x.vText, .slice x1 x.vAttrs.length x2, .slice y1 x.vKids.length y2]) _ _ _ _ (kept_put (by omega)) hok'.out)
  · exact putCells_below [.string x.vTag, .string x.vText, .slice x1 x.vAttrs.length x2, .slice y1 x.vKids.length y2] _ _ _ w.heap.size 0 (Nat.le_refl _) hB2.out
end Go.Proofs.YtlcddndpfhdakaaDoor
