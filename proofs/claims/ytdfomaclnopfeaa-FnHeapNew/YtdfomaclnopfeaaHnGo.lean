/- The walk of FnHeapNew. -/
import Derived.Test.YtdfomaclnopfeaaHnTree
import Derived.Test.YtdfomaclnopfeaaTextWalks
import Derived.Test.YtdfomaclnopfeaaReached
namespace Go.Proofs.Ytdfomaclnopfeaa
open Go.RowKit
def docD : DataW Nat := .agg [.lit (.string [100, 111, 99]), .slice [] []]
theorem doc_at {w : World} : TreeAt w 0 1 (.string ⟨#[100, 111, 99]⟩) (.slice none 0 0) docD := ⟨⟨_, rfl, by decide, rfl⟩, none, 0, rfl, Nat.zero_le _, fun h => absurd h (by decide)⟩
theorem doc_text : textR 1 docD = ⟨#[60, 100, 111, 99, 62, 60, 47, 100, 111, 99, 62]⟩ := by rfl
theorem newH_small : newH.small := by
  refine ⟨⟨by decide, fun i hi => ?_⟩, ⟨by decide, fun i hi => absurd hi (by simp [newH])⟩, ⟨by decide, fun i hi => absurd hi (by simp [newH])⟩, trivial⟩
  have h0 : i = 0 := by simp [newH] at hi; omega
  subst h0
  show newN.small
  exact ⟨by decide, by decide, ⟨by decide, fun i hi => absurd hi (by simp [newN])⟩, trivial⟩
theorem reached_new : reachedD newH = [1] := by kernel_rfl
end Go.Proofs.Ytdfomaclnopfeaa
namespace Go.Proofs.Ytdfomaclnopfeaa.fnHeapNew
open Go.RowKit
set_option maxRecDepth 100000 in
set_option maxHeartbeats 4000000 in
theorem walk {a : Option Addr} {n cap : Nat} (w : World) :
    Calls Try.prog 3 #[.slice a n cap] w fun e w' => e = .returned (.bool true) ∧ Below w.heap.size w w' := by
  go_enter Try.func3, Try.ntmps3
  go_wp2_with fail
  refine implNew_any.mono ?_
  rintro e w1 ⟨⟨bn, rfl, ho1, lo1⟩, hb1⟩
  have hB1 : Below w.heap.size w (w1.alloc (.cells (List.toArray [.int .i64 2, .int .i64 1, .slice (some ⟨bn, 0, none⟩) 1 1, .slice none 0 0, .slice none 0 0]) 27)) := hb1.alloc hb1.size _
  have at1 : HeapAt w1 0 [.int .i64 2, .int .i64 1, .slice (some ⟨bn, 0, none⟩) 1 1, .slice none 0 0, .slice none 0 0] newH := HeapOwn_at (lo := 0) _ _ _ _ ho1 (fun _ _ => Nat.zero_le _)
  have hbA : Below w1.heap.size w1 (w1.alloc (.cells (List.toArray [.int .i64 2, .int .i64 1, .slice (some ⟨bn, 0, none⟩) 1 1, .slice none 0 0, .slice none 0 0]) 27)) := (Below.refl _ _).alloc (Nat.le_refl _) _
  have atA : Hid (HeapAt (w1.alloc (.cells (List.toArray [.int .i64 2, .int .i64 1, .slice (some ⟨bn, 0, none⟩) 1 1, .slice none 0 0, .slice none 0 0]) 27)) 0 [.int .i64 2, .int .i64 1, .slice (some ⟨bn, 0, none⟩) 1 1, .slice none 0 0, .slice none 0 0] newH) := HeapAt_stays _ _ _ _ _ _ (.of_below hbA) at1
  have bH : Hid (Box (w1.alloc (.cells (List.toArray [.int .i64 2, .int .i64 1, .slice (some ⟨bn, 0, none⟩) 1 1, .slice none 0 0, .slice none 0 0]) 27)) w1.heap.size [.int .i64 2, .int .i64 1, .slice (some ⟨bn, 0, none⟩) 1 1, .slice none 0 0, .slice none 0 0] 27) := Box.new w1 _ _
  clear ho1 lo1 at1 hbA
  go_wp2_with fail
  refine (implTreeOf_new atA.out).mono ?_
  rintro e w2 ⟨rfl, hb2⟩
  have hB2 : Below w.heap.size w w2 := hB1.trans (hb2.mono hB1.size)
  have hBA : Hid (Below w.heap.size w (w2.alloc (.cells (List.toArray [.string ⟨#[100, 111, 99]⟩, .slice none 0 0]) 31))) := hB2.alloc hB2.size _
  have hbA : Below w2.heap.size w2 (w2.alloc (.cells (List.toArray [.string ⟨#[100, 111, 99]⟩, .slice none 0 0]) 31)) := (Below.refl _ _).alloc (Nat.le_refl _) _
  have atH : Hid (HeapAt (w2.alloc (.cells (List.toArray [.string ⟨#[100, 111, 99]⟩, .slice none 0 0]) 31)) 0 [.int .i64 2, .int .i64 1, .slice (some ⟨bn, 0, none⟩) 1 1, .slice none 0 0, .slice none 0 0] newH) := HeapAt_stays _ _ _ _ _ _ (.of_below hbA) (HeapAt_stays _ _ _ _ _ _ (.of_below hb2) atA.out)
  have bH2 : Hid (Box (w2.alloc (.cells (List.toArray [.string ⟨#[100, 111, 99]⟩, .slice none 0 0]) 31)) w1.heap.size [.int .i64 2, .int .i64 1, .slice (some ⟨bn, 0, none⟩) 1 1, .slice none 0 0, .slice none 0 0] 27) := (bH.out.below hb2 bH.out.lt).alloc _
  have bT : Hid (Box (w2.alloc (.cells (List.toArray [.string ⟨#[100, 111, 99]⟩, .slice none 0 0]) 31)) w2.heap.size [.string ⟨#[100, 111, 99]⟩, .slice none 0 0] 31) := Box.new w2 _ _
  have x0 := bH2.out.cell 0 rfl
  have x1 := bH2.out.cell 1 rfl
  have x2 := bH2.out.cell 2 rfl
  have x3 := bH2.out.cell 3 rfl
  have x4 := bH2.out.cell 4 rfl
  have t0 := bT.out.cell 0 rfl
  have t1 := bT.out.cell 1 rfl
  clear hbA
  go_wp2_with fail
  refine wp_region_held_drew (S := fun w' => w'.cell? ⟨w1.heap.size, 0, none⟩ = some (.int .i64 2) ∧ w'.cell? ⟨w1.heap.size, 1, none⟩ = some (.int .i64 1) ∧ w'.cell? ⟨w1.heap.size, 2, none⟩ = some (.slice (some ⟨bn, 0, none⟩) 1 1) ∧ w'.cell? ⟨w1.heap.size, 3, none⟩ = some (.slice none 0 0) ∧ w'.cell? ⟨w1.heap.size, 4, none⟩ = some (.slice none 0 0) ∧ w'.cell? ⟨w2.heap.size, 0, none⟩ = some (.string ⟨#[100, 111, 99]⟩) ∧ w'.cell? ⟨w2.heap.size, 1, none⟩ = some (.slice none 0 0)) (by kernel_rfl) (by exact ⟨x0, x1, x2, x3, x4, t0, t1⟩) (fun hHeld => ?_)
  refine tq (i := 0) (d := 14) ?_
  simp only [sz, ss]
  refine wpAnyH_ready (rs := [1]) (by kernel_rfl) (by simp) ?_
  refine AllReadyH.cons rfl (fun K hK => ?_) AllReadyH.nil
  go_simp
  refine specNew_any.mono ?_
  rintro e u1 ⟨⟨bs, rfl, ho1, lo1⟩, hq1⟩
  have hu1 : Hid (Below (w2.alloc (.cells (List.toArray [.string ⟨#[100, 111, 99]⟩, .slice none 0 0]) 31)).heap.size (w2.alloc (.cells (List.toArray [.string ⟨#[100, 111, 99]⟩, .slice none 0 0]) 31)) u1) := undrew hq1
  have ho2 : Hid (HeapAt u1 0 [.int .i64 2, .int .i64 1, .slice (some ⟨bs, 0, none⟩) 1 1, .slice none 0 0, .slice none 0 0] newH) := HeapOwn_at (lo := 0) _ _ _ _ ho1 (fun _ _ => Nat.zero_le _)
  have at1 : Hid (HeapAt u1 0 [.int .i64 2, .int .i64 1, .slice (some ⟨bn, 0, none⟩) 1 1, .slice none 0 0, .slice none 0 0] newH) := HeapAt_stays _ _ _ _ _ _ (.of_below hu1.out) atH.out
  clear ho1 lo1
  refine hK.out _ _ ⟨cell_on hq1 hHeld.1, cell_on hq1 hHeld.2.1, cell_on hq1 hHeld.2.2.1, cell_on hq1 hHeld.2.2.2.1, cell_on hq1 hHeld.2.2.2.2.1, cell_on hq1 hHeld.2.2.2.2.2.1, cell_on hq1 hHeld.2.2.2.2.2.2⟩ (fun hHeld => ?_)
  clear hK K
  refine wpAnyH_ready (rs := [2]) (by kernel_rfl) (by simp) ?_
  refine AllReadyH.cons rfl (fun K hK => ?_) AllReadyH.nil
  go_simp
  refine (sameHeap_new (lo := 0) (lo2 := 0) at1.out ho2.out).mono ?_
  rintro e u2 ⟨rfl, hq2⟩
  have hu2 : Hid (Below (w2.alloc (.cells (List.toArray [.string ⟨#[100, 111, 99]⟩, .slice none 0 0]) 31)).heap.size (w2.alloc (.cells (List.toArray [.string ⟨#[100, 111, 99]⟩, .slice none 0 0]) 31)) u2) := hu1.out.trans (hq2.mono hu1.out.size)
  have at2 : Hid (HeapAt u2 0 [.int .i64 2, .int .i64 1, .slice (some ⟨bn, 0, none⟩) 1 1, .slice none 0 0, .slice none 0 0] newH) := HeapAt_stays _ _ _ _ _ _ (.of_below hq2) at1.out
  refine hK.out _ _ ⟨cell_on hq2 hHeld.1, cell_on hq2 hHeld.2.1, cell_on hq2 hHeld.2.2.1, cell_on hq2 hHeld.2.2.2.1, cell_on hq2 hHeld.2.2.2.2.1, cell_on hq2 hHeld.2.2.2.2.2.1, cell_on hq2 hHeld.2.2.2.2.2.2⟩ (fun hHeld => ?_)
  clear hK K
  refine tq (i := 3) (d := 17) ?_
  simp only [sz, ss]
  refine tq (i := 4) (d := 18) ?_
  simp only [sz, ss]
  refine wpAnyH_ready (rs := [5]) (by kernel_rfl) (by simp) ?_
  refine AllReadyH.cons rfl (fun K hK => ?_) AllReadyH.nil
  go_simp
  refine (implHeapOk_any (lo := 0) at2.out).mono ?_
  rintro e u3 ⟨rfl, hq3⟩
  rw [implB_new]
  have hu3 : Hid (Below (w2.alloc (.cells (List.toArray [.string ⟨#[100, 111, 99]⟩, .slice none 0 0]) 31)).heap.size (w2.alloc (.cells (List.toArray [.string ⟨#[100, 111, 99]⟩, .slice none 0 0]) 31)) u3) := hu2.out.trans (hq3.mono hu2.out.size)
  have at3 : Hid (HeapAt u3 0 [.int .i64 2, .int .i64 1, .slice (some ⟨bn, 0, none⟩) 1 1, .slice none 0 0, .slice none 0 0] newH) := HeapAt_stays _ _ _ _ _ _ (.of_below hq3) at2.out
  refine hK.out _ _ ⟨cell_on hq3 hHeld.1, cell_on hq3 hHeld.2.1, cell_on hq3 hHeld.2.2.1, cell_on hq3 hHeld.2.2.2.1, cell_on hq3 hHeld.2.2.2.2.1, cell_on hq3 hHeld.2.2.2.2.2.1, cell_on hq3 hHeld.2.2.2.2.2.2⟩ (fun hHeld => ?_)
  clear hK K
  refine tq (i := 6) (d := 20) ?_
  simp only [sz, ss]
  refine tq (i := 7) (d := 21) ?_
  simp only [sz, ss]
  refine tq (i := 8) (d := 22) ?_
  simp only [sz, ss]
  refine tq (i := 9) (d := 23) ?_
  simp only [sz, ss]
  refine tq (i := 10) (d := 24) ?_
  simp only [sz, ss]
  refine tq (i := 11) (d := 25) ?_
  simp only [sz, ss]
  refine wpAnyH_ready (rs := [12]) (by kernel_rfl) (by simp) ?_
  refine AllReadyH.cons rfl (fun K hK => ?_) AllReadyH.nil
  go_simp
  refine (implTreeText_any (lo := 0) (doc_at (w := u3))).mono ?_
  rintro e u4 ⟨rfl, hq4⟩
  rw [doc_text]
  have hu4 : Hid (Below (w2.alloc (.cells (List.toArray [.string ⟨#[100, 111, 99]⟩, .slice none 0 0]) 31)).heap.size (w2.alloc (.cells (List.toArray [.string ⟨#[100, 111, 99]⟩, .slice none 0 0]) 31)) u4) := hu3.out.trans (hq4.mono hu3.out.size)
  have at4 : Hid (HeapAt u4 0 [.int .i64 2, .int .i64 1, .slice (some ⟨bn, 0, none⟩) 1 1, .slice none 0 0, .slice none 0 0] newH) := HeapAt_stays _ _ _ _ _ _ (.of_below hq4) at3.out
  refine hK.out _ _ ⟨cell_on hq4 hHeld.1, cell_on hq4 hHeld.2.1, cell_on hq4 hHeld.2.2.1, cell_on hq4 hHeld.2.2.2.1, cell_on hq4 hHeld.2.2.2.2.1, cell_on hq4 hHeld.2.2.2.2.2.1, cell_on hq4 hHeld.2.2.2.2.2.2⟩ (fun hHeld => ?_)
  clear hK K
  refine tq (i := 13) (d := 27) ?_
  simp only [sz, ss]
  refine tq (i := 14) (d := 28) ?_
  simp only [sz, ss]
  refine tq (i := 15) (d := 29) ?_
  simp only [sz, ss]
  refine tq (i := 16) (d := 30) ?_
  simp only [sz, ss]
  refine wpAnyH_ready (rs := [17]) (by kernel_rfl) (by simp) ?_
  refine AllReadyH.cons rfl (fun K hK => ?_) AllReadyH.nil
  go_simp
  refine (implReached_any (lo := 0) at4.out newH_small).mono ?_
  rintro e u5 ⟨⟨v5, fs5, rfl, ho5, lo5⟩, hq5⟩
  rw [reached_new] at ho5
  obtain ⟨a5, c5, rfl⟩ : ∃ a5 c5, v5 = .slice a5 1 c5 := ho5.form
  have hu5 : Hid (Below (w2.alloc (.cells (List.toArray [.string ⟨#[100, 111, 99]⟩, .slice none 0 0]) 31)).heap.size (w2.alloc (.cells (List.toArray [.string ⟨#[100, 111, 99]⟩, .slice none 0 0]) 31)) u5) := hu4.out.trans (hq5.mono hu4.out.size)
  clear ho5 lo5
  refine hK.out _ _ ⟨cell_on hq5 hHeld.1, cell_on hq5 hHeld.2.1, cell_on hq5 hHeld.2.2.1, cell_on hq5 hHeld.2.2.2.1, cell_on hq5 hHeld.2.2.2.2.1, cell_on hq5 hHeld.2.2.2.2.2.1, cell_on hq5 hHeld.2.2.2.2.2.2⟩ (fun hHeld => ?_)
  clear hK K
  refine tq (i := 18) (d := 32) ?_
  simp only [sz, ss]
  refine tq (i := 19) (d := 33) ?_
  simp only [sz, ss]
  refine tq (i := 20) (d := 34) ?_
  simp only [sz, ss]
  refine tq (i := 21) (d := 2) ?_
  simp only [sz, ss]
  refine wpAnyH_done (by kernel_rfl) ?_ _
  clear hHeld
  go_wp2_with fail
  go_ret
  exact ⟨rfl, hBA.out.trans (hu5.out.mono hBA.out.size)⟩
end Go.Proofs.Ytdfomaclnopfeaa.fnHeapNew
