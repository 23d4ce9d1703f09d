/- The draw of a selector: a row of steps that the draw owns. -/
import Derived.Test.YtdlkafpemongmaaStRecs
import Derived.Test.YtdlkafpemongmaaDrawsNum
import Derived.Test.YtdlkafpemongmaaTakeLit
import Derived.Laws.AppendOwn
import Derived.Deep.DeepCutAuto
import Derived.Deep.CutBlock
namespace Go.Proofs.Ytdlkafpemongmaa
open Go.RowKit
theorem infoSt : ((Try.prog.info? 36).map fun i => (i.zero, i.bytes, i.size)) = some (some (.agg #[.string ⟨#[]⟩, .bool false]), 24, 2) := by kernel_rfl
def stC (x : StepD) : List Value := [.string x.vTag, .bool x.vDeep]
def flatSt : List StepD → List Value
  | [] => []
  | x :: r => stC x ++ flatSt r
theorem flatSt_append (a b : List StepD) : flatSt (a ++ b) = flatSt a ++ flatSt b := by
  induction a with
  | nil => rfl
  | cons x r ih => simp [flatSt, ih]
theorem flatSt_length (a : List StepD) : (flatSt a).length = a.length * 2 := by
  induction a with
  | nil => rfl
  | cons x r ih => simp [flatSt, ih, stC]; omega
theorem flatSt_get (a : List StepD) : ∀ (i : Nat) (hi : i < a.length) (m : Nat), m < 2 → (flatSt a)[i * 2 + m]? = (stC a[i])[m]? := by
  induction a with
  | nil => intro i hi; simp at hi
  | cons x r ih =>
    intro i hi m hm
    cases i with
    | zero =>
      simp only [flatSt, Nat.zero_mul, Nat.zero_add, List.getElem_cons_zero]
      rw [List.getElem?_append_left (by simp [stC]; omega)]
    | succ i =>
      simp only [flatSt, List.getElem_cons_succ]
      rw [List.getElem?_append_right (by simp [stC]; omega)]
      have : (i + 1) * 2 + m - (stC x).length = i * 2 + m := by simp [stC]; omega
      rw [this]
      exact ih i (by simpa using hi) m hm
theorem flatSt_one (a : List StepD) : ∀ u ∈ flatSt a, u.oneCell' = true := by
  induction a with
  | nil => simp [flatSt]
  | cons x r ih =>
    intro u hu
    simp only [flatSt, List.mem_append] at hu
    rcases hu with hu | hu
    · simp only [stC, List.mem_cons, List.not_mem_nil, or_false] at hu
      rcases hu with rfl | rfl <;> rfl
    · exact ih u hu
theorem news_box {w : World} {b : Nat} {cs : List Value} {T : TypeId} (h : Box w b cs T) (j : Nat) (u : Value) (hu : cs[j]? = some u) : w.cell? ((⟨b, 0, none⟩ : Addr).add j) = some u := by
  have := h.cell j hu
  unfold Addr.add
  by_cases e : j = 0
  · subst e; simpa using this
  · rw [if_neg e]; simpa using this
def RowS (w : World) (base r cp : Nat) (ss : List StepD) : Prop := w.ownsRow base 36 2 (.slice (some ⟨r, 0, none⟩) ss.length cp) ss.length (flatSt ss)
theorem seq_of_rowS {w : World} {base r cp : Nat} {ss : List StepD} (h : RowS w base r cp ss) (hl : ss.length ≤ 100) (hok : ∀ x ∈ ss, x.vTag.size ≤ 100) : SeqAt 2 StepAt w base (.slice (some ⟨r, 0, none⟩) ss.length cp) ss := by
  rcases h.2 with ⟨q, _⟩ | ⟨g, cap, cur, q, h1, h2, h3, h4, h5, h6⟩
  · cases q
  · injection q with q1 _ q3
    injection q1 with q1
    injection q1 with q1
    subst q1 q3
    refine ⟨_, _, rfl, ⟨by unfold maxLen; omega, h3⟩, fun _ => ⟨r, 0, rfl, h1, (Array.getElem?_eq_some_iff.1 h2).1, fun i hi => ⟨stC ss[i], rfl, fun m hm => ?_, ?_⟩⟩⟩
    · have hm3 : m < 2 := by simpa [stC] using hm
      rw [blk_cell h2, ← flatSt_get ss i hi m hm3, ← h6, List.getElem?_take, if_pos (by omega)]
      simp
    · exact ⟨rfl, Nat.le_trans (hok _ (List.getElem_mem hi)) (by unfold maxLen; omega), trivial⟩
theorem rowS_lt {w : World} {base r cp : Nat} {ss : List StepD} (h : RowS w base r cp ss) : base ≤ r ∧ r < w.heap.size := by
  rcases h.2 with ⟨q, _⟩ | ⟨g, cap, cur, q, h1, h2, _⟩
  · cases q
  · injection q with q1 _ q3
    injection q1 with q1
    injection q1 with q1
    subst q1; exact ⟨h1, (Array.getElem?_eq_some_iff.1 h2).1⟩
theorem rowS_keep {w w' : World} {base r cp : Nat} {ss : List StepD} (h : RowS w base r cp ss) (hb : w'.heap[r]? = w.heap[r]?) : RowS w' base r cp ss := by
  refine ⟨h.1, ?_⟩
  rcases h.2 with ⟨q, _⟩ | ⟨g, cap, cur, q, h1, h2, h3⟩
  · cases q
  · have q' := q
    injection q with q1 _ q3
    injection q1 with q1
    injection q1 with q1
    subst q1
    exact Or.inr ⟨r, cap, cur, q', h1, hb.trans h2, h3⟩
theorem rd_alS {w : World} {g : Nat} {a : Option Addr} {n cap : Nat} (h : RdAt w g a n cap) (o : Obj) : RdAt (w.alloc o) g a n cap := h.below ((Below.refl _ _).alloc (Nat.le_refl _) o)
theorem gr_alS {w wx : World} {g : Nat} (h : w.grownBy wx (some g)) (o : Obj) : w.grownBy (wx.alloc o) (some g) := grown_on h (grown_of_below ((Below.refl _ _).alloc (Nat.le_refl _) o) _)
theorem rowS_al {w : World} {base r cp : Nat} {ss : List StepD} (h : RowS w base r cp ss) (o : Obj) : RowS (w.alloc o) base r cp ss := rowS_keep h (Below.heap_alloc w o r (rowS_lt h).2)
theorem rowS_gr {w w' : World} {base r cp g : Nat} {ss : List StepD} (h : RowS w base r cp ss) (hg : w.grownBy w' (some g)) (hne : g < base) : RowS w' base r cp ss := rowS_keep h (hg.block r (rowS_lt h).2 (fun e => by injection e with e; have := (rowS_lt h).1; omega))
def vlen : Value → Nat
  | .slice _ n _ => n
  | _ => 0
theorem rowS_first {w : World} {base r cp : Nat} {x : StepD} {ss : List StepD} (h : RowS w base r cp (x :: ss)) : w.cell? ⟨r, 1, none⟩ = some (.bool x.vDeep) ∧ w.frozen? ⟨r, 1, none⟩ = false ∧ RowS (w.setCell ⟨r, 1, none⟩ (.bool false)) base r cp (⟨x.vTag, false⟩ :: ss) := by
  have hl := h.1
  rcases h.2 with ⟨q, _⟩ | ⟨g, cap, cur, q, h1, h2, h3, h4, h5, h6⟩
  · cases q
  · have q' := q
    injection q with q1 _ q3
    injection q1 with q1
    injection q1 with q1
    subst q1 q3
    have e1 : cur.toList[1]? = some (.bool x.vDeep) := by
      have : (cur.toList.take ((x :: ss).length * 2))[1]? = some (.bool x.vDeep) := by rw [h6]; rfl
      rw [List.getElem?_take, if_pos (by simp; omega)] at this
      exact this
    refine ⟨by rw [blk_cell h2]; simpa using e1, blk_unfrozen h2 1, by simp [flatSt, flatSt_length, stC]; omega, Or.inr ⟨r, cp, cur.setIfInBounds 1 (.bool false), by simp, h1, blk_set h2 _, h3, h4, by simpa using h5, ?_⟩⟩
    have e2 : (cur.setIfInBounds 1 (.bool false)).toList = cur.toList.set 1 (.bool false) := by simp
    have e3 : (⟨x.vTag, false⟩ :: ss : List StepD).length * 2 = (x :: ss).length * 2 := by simp
    rw [e2, e3, List.take_set, h6]
    rfl
/-- how things stand while a selector is drawn -/
def SP (w : World) (g : Nat) (a : Option Addr) (n cap L : Nat) (v : Value) (wx : World) : Prop := ∃ ss r cp, v = .slice (some ⟨r, 0, none⟩) ss.length cp ∧ ss.length ≤ L ∧ RowS wx w.heap.size r cp ss ∧ (∀ x ∈ ss, x.vTag.size ≤ 100) ∧ RdAt wx g a n cap ∧ w.grownBy wx (some g)
theorem sp_app {w wx w5 : World} {g r cp n cap L : Nat} {a : Option Addr} {ss : List StepD} {x : StepD} {v5 : Value} (hr : RdAt wx g a n cap) (hg : w.grownBy wx (some g)) (hrow : RowS wx w.heap.size r cp ss) (hok : ∀ x ∈ ss, x.vTag.size ≤ 100)
    (ho5 : w5.ownsRow w.heap.size 36 2 v5 (ss.length + 1) (flatSt ss ++ flatSt [x])) (hg5 : wx.grownBy w5 (Value.slice (some ⟨r, 0, none⟩) ss.length cp).ownBlock) (hn5 : v5 = .slice none 0 0 ↔ Value.slice (some ⟨r, 0, none⟩) ss.length cp = .slice none 0 0 ∧ 1 = 0) (hx : x.vTag.size ≤ 100) (hgw : g < w.heap.size) (hL : ss.length + 1 ≤ L) : SP w g a n cap L v5 w5 ∧ 1 ≤ vlen v5 := by
  have hrr := rowS_lt hrow
  have hg5' : wx.grownBy w5 (some r) := hg5
  rcases ho5.2 with ⟨q, _⟩ | ⟨r5, cp5, cur, q, _⟩
  · exact absurd (hn5.1 q).2 (by decide)
  · have hl : (ss ++ [x]).length = ss.length + 1 := by simp
    refine ⟨⟨ss ++ [x], r5, cp5, by rw [q, hl], by rw [hl]; exact hL, ?_, fun y hy => (List.mem_append.1 hy).elim (hok y) (fun h => by have e : y = x := (by simpa using h); rw [e]; exact hx), ?_, ?_⟩, by rw [q]; simp [vlen]⟩
    · show w5.ownsRow _ _ _ _ _ _
      rw [flatSt_append, hl, ← q]; exact ho5
    · exact hr.keep (fun b hb => hg5'.block b (by have := hr.lt; omega) (fun e => by injection e with e; omega))
    · exact ⟨hg5'.os.trans hg.os, hg5'.tape.trans hg.tape, hg5'.output.trans hg.output, Nat.le_trans hg.size hg5'.size, fun b hb hn => (hg5'.block b (Nat.lt_of_lt_of_le hb hg.size) (fun e => by injection e with e; omega)).trans (hg.block b hb hn)⟩
def SelR (w : World) (e : Ending) (w' : World) : Prop := ∃ ss r cp, e = .returned (.slice (some ⟨r, 0, none⟩) ss.length cp) ∧ RowS w' w.heap.size r cp ss ∧ ss.length ≤ 10 ∧ ∀ x ∈ ss, x.vTag.size ≤ 100
set_option maxRecDepth 100000 in
set_option maxHeartbeats 8000000 in
theorem sel_any {w : World} {g : Nat} {a : Option Addr} {n cap : Nat} (h : RdAt w g a n cap) :
    Calls Try.prog 26 #[.pointer (some ⟨g, 0, none⟩)] w fun e w' => SelR w e w' ∧ RdAt w' g a n cap ∧ w.grownBy w' (some g) := by
  have hgw : g < w.heap.size := h.lt
  have h0 : Hid (RdAt w g a n cap) := h
  clear h
  obtain ⟨iT, hiT, heT⟩ := Option.map_eq_some_iff.1 infoSt
  simp only [Prod.mk.injEq] at heT
  have hI : Hid (Try.prog.info? 36 = some iT) := hiT
  have hE : Hid (iT.zero = some (.agg #[.string ⟨#[]⟩, .bool false]) ∧ iT.bytes = 24 ∧ iT.size = 2) := heT
  clear hiT heT
  have hr1 : Hid (RdAt (w.alloc (.cells #[] 36)) g a n cap) := rd_alS h0.out _
  have hg1 : Hid (w.grownBy (w.alloc (.cells #[] 36)) (some g)) := gr_alS (grown_refl _ _) _
  have ho1 : Hid (RowS (w.alloc (.cells #[] 36)) w.heap.size w.heap.size 0 []) := ⟨rfl, Or.inr ⟨_, _, #[], rfl, Nat.le_refl _, (MapKept.heap_alloc w _).1, Nat.le_refl _, Nat.zero_le _, rfl, rfl⟩⟩
  go_enter Try.func26, Try.ntmps26
  go_wp2_with fail
  refine (below_any hr1.out 3 (by omega) (by omega)).mono ?_
  rintro e w2 ⟨v, rfl, v0, v1, hr2, hg2⟩
  obtain ⟨m, rfl⟩ : ∃ m : Nat, v = (m : Int) := ⟨v.toNat, by omega⟩
  have hSP : Hid (SP w g a n cap (4 - (m + 1)) (.slice (some ⟨w.heap.size, 0, none⟩) 0 0) w2) := ⟨[], _, _, rfl, Nat.zero_le _, rowS_gr ho1.out hg2 hgw, by simp, hr2, grown_on hg1.out hg2⟩
  clear hr1 hg1 ho1 hr2 hg2
  go_wp2_with fail
  go_loopw [3, 4] (fun v i wr => ∃ j : Nat, j ≤ 3 ∧ i = .int .i64 j ∧ Hid (SP w g a n cap (4 - j) v wr) ∧ Hid (1 ≤ j ∨ 1 ≤ vlen v)) (fun _ i _ => (intOf i).toNat)
  case atStart => exact ⟨m + 1, by omega, by push_cast; rw [Int.add_comm], hSP, Or.inl (by omega)⟩
  case round =>
    obtain ⟨j, hj, rfl, hsp, hlo⟩ := hrel
    obtain ⟨ss, r, cp, rfl, hsl, hrow, hok, hrd, hgr⟩ := hsp.out
    have hrow' : Hid (RowS wr w.heap.size r cp ss) := hrow
    have hok' : Hid (∀ x ∈ ss, x.vTag.size ≤ 100) := hok
    have hrd' : Hid (RdAt wr g a n cap) := hrd
    have hgr' : Hid (w.grownBy wr (some g)) := hgr
    have hrr := rowS_lt hrow
    have hgl := hrd.lt
    clear hsp hrow hok hrd hgr
    by_cases hj0 : 0 < j
    · have hj' : (0 : Int) < (j : Int) := by omega
      have hwj : IntKind.i64.wrap ((j : Int) - 1) = (j : Int) - 1 := by simp [IntKind.wrap, IntKind.signed, IntKind.bits]; omega
      have hk0 : Hid (RdAt wr.drew g a n cap ∧ w.grownBy wr.drew (some g) ∧ RowS wr.drew w.heap.size r cp ss) := ⟨hrd'.out.below ((Below.refl _ _).drew), grown_on hgr'.out (grown_of_below (Below.refl _ _).drew _), rowS_keep hrow'.out rfl⟩
      by_cases hz : ss.length = 0
      · have hzb : ((ss.length : Int) == 0) = true := by simp [hz]
        have hzi : (ss.length : Int) = 0 := by omega
        clear hz
        go_wp2_with fail
        refine wp_region_held_drew (S := fun w' => True) (by kernel_rfl) trivial (fun hHeld => ?_)
        refine tq (i := 0) (d := 13) ?_
        simp only [sz, Go.Proofs.Ytdlkafpemongmaa.ss]
        refine tq (i := 2) (d := 15) ?_
        simp only [sz, Go.Proofs.Ytdlkafpemongmaa.ss]
        refine tq (i := 6) (d := 19) ?_
        simp only [sz, Go.Proofs.Ytdlkafpemongmaa.ss]
        refine tq (i := 7) (d := 20) ?_
        simp only [sz, Go.Proofs.Ytdlkafpemongmaa.ss]
        refine tq (i := 8) (d := 21) ?_
        simp only [sz, Go.Proofs.Ytdlkafpemongmaa.ss]
        refine wpAnyH_ready (rs := [1, 3]) (by kernel_rfl) (by simp) ?_
        refine (AllReadyH.cons rfl (fun K hK => ?_) (AllReadyH.cons rfl (fun K hK => ?_) AllReadyH.nil))
        · go_simp
          have k_1 : Hid (RdAt (World.alloc wr.drew (.cells #[.string ⟨#[]⟩, .string ⟨#[97]⟩, .string ⟨#[100, 105, 118]⟩, .string ⟨#[112]⟩] 9)) g a n cap ∧ w.grownBy (World.alloc wr.drew (.cells #[.string ⟨#[]⟩, .string ⟨#[97]⟩, .string ⟨#[100, 105, 118]⟩, .string ⟨#[112]⟩] 9)) (some g) ∧ RowS (World.alloc wr.drew (.cells #[.string ⟨#[]⟩, .string ⟨#[97]⟩, .string ⟨#[100, 105, 118]⟩, .string ⟨#[112]⟩] 9)) w.heap.size r cp ss) := ⟨rd_alS hk0.out.1 _, gr_alS hk0.out.2.1 _, rowS_al hk0.out.2.2 _⟩
          have tb_1 : Hid (Box (World.alloc wr.drew (.cells #[.string ⟨#[]⟩, .string ⟨#[97]⟩, .string ⟨#[100, 105, 118]⟩, .string ⟨#[112]⟩] 9)) (wr.heap.size) ([⟨#[]⟩, ⟨#[97]⟩, ⟨#[100, 105, 118]⟩, ⟨#[112]⟩].map Value.string) 9) := Box.new wr.drew _ _
          have tl_1 : g < wr.heap.size := hk0.out.1.lt
          refine hK.out _ _ trivial (fun hHeld => ?_)
          clear hK K
          refine wpAnyH_ready (rs := [3]) (by kernel_rfl) (by simp) ?_
          refine AllReadyH.cons rfl (fun K hK => ?_) AllReadyH.nil
          go_simp
          refine (below_any (by exact k_1.out.1) 4 (by omega) (by omega)).mono ?_
          rintro e u_2 ⟨vb_2, rfl, vp_2, vl_2, hrb_2, hgb_2⟩
          obtain ⟨mb_2, rfl⟩ : ∃ m : Nat, vb_2 = (m : Int) := ⟨vb_2.toNat, by omega⟩
          have hgb2_2 : World.grownBy (World.alloc wr.drew (.cells #[.string ⟨#[]⟩, .string ⟨#[97]⟩, .string ⟨#[100, 105, 118]⟩, .string ⟨#[112]⟩] 9)) u_2 (some g) := hgb_2
          have k_2 : Hid (RdAt u_2 g a n cap ∧ w.grownBy u_2 (some g) ∧ RowS u_2 w.heap.size r cp ss) := ⟨hrb_2, grown_on k_1.out.2.1 hgb2_2, rowS_gr k_1.out.2.2 hgb2_2 hgw⟩
          have tb_2 : Hid (Box u_2 (wr.heap.size) ([⟨#[]⟩, ⟨#[97]⟩, ⟨#[100, 105, 118]⟩, ⟨#[112]⟩].map Value.string) 9) := box_other tb_1.out (by have := k_1.out.2.1.size; omega) hgb2_2
          refine hK.out _ _ trivial (fun hHeld => ?_)
          clear hK K
          refine tq (i := 4) (d := 17) ?_
          simp only [sz, Go.Proofs.Ytdlkafpemongmaa.ss]
          refine tq (i := 9) (d := 22) ?_
          simp only [sz, Go.Proofs.Ytdlkafpemongmaa.ss]
          refine tn (i := 10) (d := 23) ?_
          simp only [sz, Go.Proofs.Ytdlkafpemongmaa.ss]
          refine tn (i := 11) (d := 24) ?_
          simp only [sz, Go.Proofs.Ytdlkafpemongmaa.ss]
          refine tn (i := 12) (d := 25) ?_
          simp only [sz, Go.Proofs.Ytdlkafpemongmaa.ss]
          refine tq (i := 13) (d := 26) ?_
          simp only [sz, Go.Proofs.Ytdlkafpemongmaa.ss]
          refine wpAnyH_ready (rs := [5]) (by kernel_rfl) (by simp) ?_
          refine AllReadyH.cons rfl (fun K hK => ?_) AllReadyH.nil
          have ml_2 : mb_2 < 4 := by omega
          have zt_2 := box_str tb_2.out mb_2 (by exact ml_2)
          have hk_2 : Hid ((([⟨#[]⟩, ⟨#[97]⟩, ⟨#[100, 105, 118]⟩, ⟨#[112]⟩] : List ByteArray)[mb_2]'(by exact ml_2)).size ≤ 100) := mem_le (m := 100) (by decide) mb_2 (by exact ml_2)
          generalize ([⟨#[]⟩, ⟨#[97]⟩, ⟨#[100, 105, 118]⟩, ⟨#[112]⟩] : List ByteArray)[mb_2]'(by exact ml_2) = tg_2 at zt_2 hk_2
          go_simp
          refine hK.out _ _ trivial (fun hHeld => ?_)
          clear hK K
          refine tq (i := 14) (d := 27) ?_
          simp only [sz, Go.Proofs.Ytdlkafpemongmaa.ss]
          refine wpAnyH_ready (rs := [15]) (by kernel_rfl) (by simp) ?_
          refine AllReadyH.cons rfl (fun K hK => ?_) AllReadyH.nil
          go_simp
          have k_4 : Hid (RdAt (World.alloc u_2 (.cells #[.string tg_2, .bool true] 36)) g a n cap ∧ w.grownBy (World.alloc u_2 (.cells #[.string tg_2, .bool true] 36)) (some g) ∧ RowS (World.alloc u_2 (.cells #[.string tg_2, .bool true] 36)) w.heap.size r cp ss) := ⟨rd_alS k_2.out.1 _, gr_alS k_2.out.2.1 _, rowS_al k_2.out.2.2 _⟩
          have tb_4 : Hid (Box (World.alloc u_2 (.cells #[.string tg_2, .bool true] 36)) (wr.heap.size) ([⟨#[]⟩, ⟨#[97]⟩, ⟨#[100, 105, 118]⟩, ⟨#[112]⟩].map Value.string) 9) := tb_2.out.alloc _
          have bo1_4 : Hid (Box (World.alloc u_2 (.cells #[.string tg_2, .bool true] 36)) ((World.heap u_2).size) [.string tg_2, .bool true] 36) := Box.new u_2 _ _
          refine hK.out _ _ trivial (fun hHeld => ?_)
          clear hK K
          refine wpAnyH_ready (rs := [16]) (by kernel_rfl) (by simp) ?_
          refine AllReadyH.cons rfl (fun K hK => ?_) AllReadyH.nil
          rw [if_pos (by kernel_rfl)]
          refine wp_append_own _ _ _ 24 rfl (w.heap.size) 36 iT (.agg #[.string ⟨#[]⟩, .bool false]) 2 24 Try.underlying24 hI.out hE.out.1 hE.out.2.2 hE.out.2.1 rfl (by decide) _ (ss.length) (flatSt ss) rfl k_4.out.2.2 ⟨(World.heap u_2).size, 0, none⟩ 1 1 (flatSt [⟨tg_2, true⟩]) rfl rfl (news_box bo1_4.out) (flatSt_one _) (by unfold maxLen; omega) (by omega) k_4.out.2.1.size ?_
          intro v_5 u_5 hap_5 hgr_5 hnn_5
          have fin : Hid (SP w g a n cap (4 - (j - 1)) v_5 u_5 ∧ 1 ≤ vlen v_5) := sp_app k_4.out.1 k_4.out.2.1 k_4.out.2.2 hok'.out hap_5 hgr_5 hnn_5 hk_2.out hgw (by omega)
          clear hap_5 hgr_5 hnn_5
          refine hK.out _ _ trivial (fun hHeld => ?_)
          clear hK K
          refine tq (i := 17) (d := 3) ?_
          simp only [sz, Go.Proofs.Ytdlkafpemongmaa.ss]
          refine wpAnyH_done (by kernel_rfl) ?_ _
          go_wp2_with fail
          go_roundw
          case rel => exact ⟨j - 1, by omega, by rw [Int.ofNat_sub (by omega)]; rfl, fin.out.1, Or.inr fin.out.2⟩
          case measure => simp [intOf]; omega
        · go_simp
          refine (below_any (by exact hk0.out.1) 4 (by omega) (by omega)).mono ?_
          rintro e u_1 ⟨vb_1, rfl, vp_1, vl_1, hrb_1, hgb_1⟩
          obtain ⟨mb_1, rfl⟩ : ∃ m : Nat, vb_1 = (m : Int) := ⟨vb_1.toNat, by omega⟩
          have hgb2_1 : World.grownBy wr.drew u_1 (some g) := hgb_1
          have k_1 : Hid (RdAt u_1 g a n cap ∧ w.grownBy u_1 (some g) ∧ RowS u_1 w.heap.size r cp ss) := ⟨hrb_1, grown_on hk0.out.2.1 hgb2_1, rowS_gr hk0.out.2.2 hgb2_1 hgw⟩
          refine hK.out _ _ trivial (fun hHeld => ?_)
          clear hK K
          refine tq (i := 9) (d := 22) ?_
          simp only [sz, Go.Proofs.Ytdlkafpemongmaa.ss]
          refine tn (i := 10) (d := 23) ?_
          simp only [sz, Go.Proofs.Ytdlkafpemongmaa.ss]
          refine tn (i := 11) (d := 24) ?_
          simp only [sz, Go.Proofs.Ytdlkafpemongmaa.ss]
          refine tn (i := 12) (d := 25) ?_
          simp only [sz, Go.Proofs.Ytdlkafpemongmaa.ss]
          refine tq (i := 13) (d := 26) ?_
          simp only [sz, Go.Proofs.Ytdlkafpemongmaa.ss]
          refine wpAnyH_ready (rs := [1]) (by kernel_rfl) (by simp) ?_
          refine AllReadyH.cons rfl (fun K hK => ?_) AllReadyH.nil
          go_simp
          have k_2 : Hid (RdAt (World.alloc u_1 (.cells #[.string ⟨#[]⟩, .string ⟨#[97]⟩, .string ⟨#[100, 105, 118]⟩, .string ⟨#[112]⟩] 9)) g a n cap ∧ w.grownBy (World.alloc u_1 (.cells #[.string ⟨#[]⟩, .string ⟨#[97]⟩, .string ⟨#[100, 105, 118]⟩, .string ⟨#[112]⟩] 9)) (some g) ∧ RowS (World.alloc u_1 (.cells #[.string ⟨#[]⟩, .string ⟨#[97]⟩, .string ⟨#[100, 105, 118]⟩, .string ⟨#[112]⟩] 9)) w.heap.size r cp ss) := ⟨rd_alS k_1.out.1 _, gr_alS k_1.out.2.1 _, rowS_al k_1.out.2.2 _⟩
          have tb_2 : Hid (Box (World.alloc u_1 (.cells #[.string ⟨#[]⟩, .string ⟨#[97]⟩, .string ⟨#[100, 105, 118]⟩, .string ⟨#[112]⟩] 9)) ((World.heap u_1).size) ([⟨#[]⟩, ⟨#[97]⟩, ⟨#[100, 105, 118]⟩, ⟨#[112]⟩].map Value.string) 9) := Box.new u_1 _ _
          have tl_2 : g < (World.heap u_1).size := k_1.out.1.lt
          refine hK.out _ _ trivial (fun hHeld => ?_)
          clear hK K
          refine tq (i := 4) (d := 17) ?_
          simp only [sz, Go.Proofs.Ytdlkafpemongmaa.ss]
          refine wpAnyH_ready (rs := [5]) (by kernel_rfl) (by simp) ?_
          refine AllReadyH.cons rfl (fun K hK => ?_) AllReadyH.nil
          have ml_2 : mb_1 < 4 := by omega
          have zt_2 := box_str tb_2.out mb_1 (by exact ml_2)
          have hk_2 : Hid ((([⟨#[]⟩, ⟨#[97]⟩, ⟨#[100, 105, 118]⟩, ⟨#[112]⟩] : List ByteArray)[mb_1]'(by exact ml_2)).size ≤ 100) := mem_le (m := 100) (by decide) mb_1 (by exact ml_2)
          generalize ([⟨#[]⟩, ⟨#[97]⟩, ⟨#[100, 105, 118]⟩, ⟨#[112]⟩] : List ByteArray)[mb_1]'(by exact ml_2) = tg_2 at zt_2 hk_2
          go_simp
          refine hK.out _ _ trivial (fun hHeld => ?_)
          clear hK K
          refine tq (i := 14) (d := 27) ?_
          simp only [sz, Go.Proofs.Ytdlkafpemongmaa.ss]
          refine wpAnyH_ready (rs := [15]) (by kernel_rfl) (by simp) ?_
          refine AllReadyH.cons rfl (fun K hK => ?_) AllReadyH.nil
          go_simp
          have k_4 : Hid (RdAt (World.alloc (World.alloc u_1 (.cells #[.string ⟨#[]⟩, .string ⟨#[97]⟩, .string ⟨#[100, 105, 118]⟩, .string ⟨#[112]⟩] 9)) (.cells #[.string tg_2, .bool true] 36)) g a n cap ∧ w.grownBy (World.alloc (World.alloc u_1 (.cells #[.string ⟨#[]⟩, .string ⟨#[97]⟩, .string ⟨#[100, 105, 118]⟩, .string ⟨#[112]⟩] 9)) (.cells #[.string tg_2, .bool true] 36)) (some g) ∧ RowS (World.alloc (World.alloc u_1 (.cells #[.string ⟨#[]⟩, .string ⟨#[97]⟩, .string ⟨#[100, 105, 118]⟩, .string ⟨#[112]⟩] 9)) (.cells #[.string tg_2, .bool true] 36)) w.heap.size r cp ss) := ⟨rd_alS k_2.out.1 _, gr_alS k_2.out.2.1 _, rowS_al k_2.out.2.2 _⟩
          have tb_4 : Hid (Box (World.alloc (World.alloc u_1 (.cells #[.string ⟨#[]⟩, .string ⟨#[97]⟩, .string ⟨#[100, 105, 118]⟩, .string ⟨#[112]⟩] 9)) (.cells #[.string tg_2, .bool true] 36)) ((World.heap u_1).size) ([⟨#[]⟩, ⟨#[97]⟩, ⟨#[100, 105, 118]⟩, ⟨#[112]⟩].map Value.string) 9) := tb_2.out.alloc _
          have bo0_4 := Box.new (World.alloc u_1 (.cells #[.string ⟨#[]⟩, .string ⟨#[97]⟩, .string ⟨#[100, 105, 118]⟩, .string ⟨#[112]⟩] 9)) [.string tg_2, .bool true] 36
          simp only [World.size_alloc] at bo0_4
          have bo1_4 : Hid (Box (World.alloc (World.alloc u_1 (.cells #[.string ⟨#[]⟩, .string ⟨#[97]⟩, .string ⟨#[100, 105, 118]⟩, .string ⟨#[112]⟩] 9)) (.cells #[.string tg_2, .bool true] 36)) ((World.heap u_1).size + 1) [.string tg_2, .bool true] 36) := bo0_4
          clear bo0_4
          refine hK.out _ _ trivial (fun hHeld => ?_)
          clear hK K
          refine wpAnyH_ready (rs := [16]) (by kernel_rfl) (by simp) ?_
          refine AllReadyH.cons rfl (fun K hK => ?_) AllReadyH.nil
          rw [if_pos (by kernel_rfl)]
          refine wp_append_own _ _ _ 24 rfl (w.heap.size) 36 iT (.agg #[.string ⟨#[]⟩, .bool false]) 2 24 Try.underlying24 hI.out hE.out.1 hE.out.2.2 hE.out.2.1 rfl (by decide) _ (ss.length) (flatSt ss) rfl k_4.out.2.2 ⟨(World.heap u_1).size + 1, 0, none⟩ 1 1 (flatSt [⟨tg_2, true⟩]) rfl rfl (news_box bo1_4.out) (flatSt_one _) (by unfold maxLen; omega) (by omega) k_4.out.2.1.size ?_
          intro v_5 u_5 hap_5 hgr_5 hnn_5
          have fin : Hid (SP w g a n cap (4 - (j - 1)) v_5 u_5 ∧ 1 ≤ vlen v_5) := sp_app k_4.out.1 k_4.out.2.1 k_4.out.2.2 hok'.out hap_5 hgr_5 hnn_5 hk_2.out hgw (by omega)
          clear hap_5 hgr_5 hnn_5
          refine hK.out _ _ trivial (fun hHeld => ?_)
          clear hK K
          refine tq (i := 17) (d := 3) ?_
          simp only [sz, Go.Proofs.Ytdlkafpemongmaa.ss]
          refine wpAnyH_done (by kernel_rfl) ?_ _
          go_wp2_with fail
          go_roundw
          case rel => exact ⟨j - 1, by omega, by rw [Int.ofNat_sub (by omega)]; rfl, fin.out.1, Or.inr fin.out.2⟩
          case measure => simp [intOf]; omega
      · have hzb : ((ss.length : Int) == 0) = false := by simpa using hz
        have hzi : ¬ (ss.length : Int) = 0 := by omega
        go_wp2_with fail
        refine wp_region_held_drew (S := fun w' => True) (by kernel_rfl) trivial (fun hHeld => ?_)
        refine tq (i := 0) (d := 13) ?_
        simp only [sz, Go.Proofs.Ytdlkafpemongmaa.ss]
        refine tq (i := 2) (d := 15) ?_
        simp only [sz, Go.Proofs.Ytdlkafpemongmaa.ss]
        refine tq (i := 6) (d := 19) ?_
        simp only [sz, Go.Proofs.Ytdlkafpemongmaa.ss]
        refine tq (i := 7) (d := 20) ?_
        simp only [sz, Go.Proofs.Ytdlkafpemongmaa.ss]
        refine tq (i := 8) (d := 21) ?_
        simp only [sz, Go.Proofs.Ytdlkafpemongmaa.ss]
        refine wpAnyH_ready (rs := [1, 3]) (by kernel_rfl) (by simp) ?_
        refine (AllReadyH.cons rfl (fun K hK => ?_) (AllReadyH.cons rfl (fun K hK => ?_) AllReadyH.nil))
        · go_simp
          have k_1 : Hid (RdAt (World.alloc wr.drew (.cells #[.string ⟨#[]⟩, .string ⟨#[97]⟩, .string ⟨#[100, 105, 118]⟩, .string ⟨#[112]⟩] 9)) g a n cap ∧ w.grownBy (World.alloc wr.drew (.cells #[.string ⟨#[]⟩, .string ⟨#[97]⟩, .string ⟨#[100, 105, 118]⟩, .string ⟨#[112]⟩] 9)) (some g) ∧ RowS (World.alloc wr.drew (.cells #[.string ⟨#[]⟩, .string ⟨#[97]⟩, .string ⟨#[100, 105, 118]⟩, .string ⟨#[112]⟩] 9)) w.heap.size r cp ss) := ⟨rd_alS hk0.out.1 _, gr_alS hk0.out.2.1 _, rowS_al hk0.out.2.2 _⟩
          have tb_1 : Hid (Box (World.alloc wr.drew (.cells #[.string ⟨#[]⟩, .string ⟨#[97]⟩, .string ⟨#[100, 105, 118]⟩, .string ⟨#[112]⟩] 9)) (wr.heap.size) ([⟨#[]⟩, ⟨#[97]⟩, ⟨#[100, 105, 118]⟩, ⟨#[112]⟩].map Value.string) 9) := Box.new wr.drew _ _
          have tl_1 : g < wr.heap.size := hk0.out.1.lt
          refine hK.out _ _ trivial (fun hHeld => ?_)
          clear hK K
          refine wpAnyH_ready (rs := [3]) (by kernel_rfl) (by simp) ?_
          refine AllReadyH.cons rfl (fun K hK => ?_) AllReadyH.nil
          go_simp
          refine (below_any (by exact k_1.out.1) 4 (by omega) (by omega)).mono ?_
          rintro e u_2 ⟨vb_2, rfl, vp_2, vl_2, hrb_2, hgb_2⟩
          obtain ⟨mb_2, rfl⟩ : ∃ m : Nat, vb_2 = (m : Int) := ⟨vb_2.toNat, by omega⟩
          have hgb2_2 : World.grownBy (World.alloc wr.drew (.cells #[.string ⟨#[]⟩, .string ⟨#[97]⟩, .string ⟨#[100, 105, 118]⟩, .string ⟨#[112]⟩] 9)) u_2 (some g) := hgb_2
          have k_2 : Hid (RdAt u_2 g a n cap ∧ w.grownBy u_2 (some g) ∧ RowS u_2 w.heap.size r cp ss) := ⟨hrb_2, grown_on k_1.out.2.1 hgb2_2, rowS_gr k_1.out.2.2 hgb2_2 hgw⟩
          have tb_2 : Hid (Box u_2 (wr.heap.size) ([⟨#[]⟩, ⟨#[97]⟩, ⟨#[100, 105, 118]⟩, ⟨#[112]⟩].map Value.string) 9) := box_other tb_1.out (by have := k_1.out.2.1.size; omega) hgb2_2
          refine hK.out _ _ trivial (fun hHeld => ?_)
          clear hK K
          refine tq (i := 4) (d := 17) ?_
          simp only [sz, Go.Proofs.Ytdlkafpemongmaa.ss]
          refine tq (i := 9) (d := 22) ?_
          simp only [sz, Go.Proofs.Ytdlkafpemongmaa.ss]
          refine tq (i := 10) (d := 23) ?_
          simp only [sz, Go.Proofs.Ytdlkafpemongmaa.ss]
          refine wpAnyH_ready (rs := [5, 11]) (by kernel_rfl) (by simp) ?_
          refine (AllReadyH.cons rfl (fun K hK => ?_) (AllReadyH.cons rfl (fun K hK => ?_) AllReadyH.nil))
          · have ml_2 : mb_2 < 4 := by omega
            have zt_2 := box_str tb_2.out mb_2 (by exact ml_2)
            have hk_2 : Hid ((([⟨#[]⟩, ⟨#[97]⟩, ⟨#[100, 105, 118]⟩, ⟨#[112]⟩] : List ByteArray)[mb_2]'(by exact ml_2)).size ≤ 100) := mem_le (m := 100) (by decide) mb_2 (by exact ml_2)
            generalize ([⟨#[]⟩, ⟨#[97]⟩, ⟨#[100, 105, 118]⟩, ⟨#[112]⟩] : List ByteArray)[mb_2]'(by exact ml_2) = tg_2 at zt_2 hk_2
            go_simp
            refine hK.out _ _ trivial (fun hHeld => ?_)
            clear hK K
            refine wpAnyH_ready (rs := [11]) (by kernel_rfl) (by simp) ?_
            refine AllReadyH.cons rfl (fun K hK => ?_) AllReadyH.nil
            go_simp
            refine (once_any (by exact k_2.out.1) 3 (by omega) (by omega)).mono ?_
            rintro e u_4 ⟨bo_4, rfl, hrb_4, hgb_4⟩
            have hgb2_4 : World.grownBy u_2 u_4 (some g) := hgb_4
            have k_4 : Hid (RdAt u_4 g a n cap ∧ w.grownBy u_4 (some g) ∧ RowS u_4 w.heap.size r cp ss) := ⟨hrb_4, grown_on k_2.out.2.1 hgb2_4, rowS_gr k_2.out.2.2 hgb2_4 hgw⟩
            have tb_4 : Hid (Box u_4 (wr.heap.size) ([⟨#[]⟩, ⟨#[97]⟩, ⟨#[100, 105, 118]⟩, ⟨#[112]⟩].map Value.string) 9) := box_other tb_2.out (by have := k_2.out.2.1.size; omega) hgb2_4
            refine hK.out _ _ trivial (fun hHeld => ?_)
            clear hK K
            refine tq (i := 12) (d := 25) ?_
            simp only [sz, Go.Proofs.Ytdlkafpemongmaa.ss]
            refine tq (i := 13) (d := 26) ?_
            simp only [sz, Go.Proofs.Ytdlkafpemongmaa.ss]
            refine tq (i := 14) (d := 27) ?_
            simp only [sz, Go.Proofs.Ytdlkafpemongmaa.ss]
            refine wpAnyH_ready (rs := [15]) (by kernel_rfl) (by simp) ?_
            refine AllReadyH.cons rfl (fun K hK => ?_) AllReadyH.nil
            go_simp
            have k_5 : Hid (RdAt (World.alloc u_4 (.cells #[.string tg_2, .bool (!bo_4)] 36)) g a n cap ∧ w.grownBy (World.alloc u_4 (.cells #[.string tg_2, .bool (!bo_4)] 36)) (some g) ∧ RowS (World.alloc u_4 (.cells #[.string tg_2, .bool (!bo_4)] 36)) w.heap.size r cp ss) := ⟨rd_alS k_4.out.1 _, gr_alS k_4.out.2.1 _, rowS_al k_4.out.2.2 _⟩
            have tb_5 : Hid (Box (World.alloc u_4 (.cells #[.string tg_2, .bool (!bo_4)] 36)) (wr.heap.size) ([⟨#[]⟩, ⟨#[97]⟩, ⟨#[100, 105, 118]⟩, ⟨#[112]⟩].map Value.string) 9) := tb_4.out.alloc _
            have bo1_5 : Hid (Box (World.alloc u_4 (.cells #[.string tg_2, .bool (!bo_4)] 36)) ((World.heap u_4).size) [.string tg_2, .bool (!bo_4)] 36) := Box.new u_4 _ _
            refine hK.out _ _ trivial (fun hHeld => ?_)
            clear hK K
            refine wpAnyH_ready (rs := [16]) (by kernel_rfl) (by simp) ?_
            refine AllReadyH.cons rfl (fun K hK => ?_) AllReadyH.nil
            rw [if_pos (by kernel_rfl)]
            refine wp_append_own _ _ _ 24 rfl (w.heap.size) 36 iT (.agg #[.string ⟨#[]⟩, .bool false]) 2 24 Try.underlying24 hI.out hE.out.1 hE.out.2.2 hE.out.2.1 rfl (by decide) _ (ss.length) (flatSt ss) rfl k_5.out.2.2 ⟨(World.heap u_4).size, 0, none⟩ 1 1 (flatSt [⟨tg_2, (!bo_4)⟩]) rfl rfl (news_box bo1_5.out) (flatSt_one _) (by unfold maxLen; omega) (by omega) k_5.out.2.1.size ?_
            intro v_6 u_6 hap_6 hgr_6 hnn_6
            have fin : Hid (SP w g a n cap (4 - (j - 1)) v_6 u_6 ∧ 1 ≤ vlen v_6) := sp_app k_5.out.1 k_5.out.2.1 k_5.out.2.2 hok'.out hap_6 hgr_6 hnn_6 hk_2.out hgw (by omega)
            clear hap_6 hgr_6 hnn_6
            refine hK.out _ _ trivial (fun hHeld => ?_)
            clear hK K
            refine tq (i := 17) (d := 3) ?_
            simp only [sz, Go.Proofs.Ytdlkafpemongmaa.ss]
            refine wpAnyH_done (by kernel_rfl) ?_ _
            go_wp2_with fail
            go_roundw
            case rel => exact ⟨j - 1, by omega, by rw [Int.ofNat_sub (by omega)]; rfl, fin.out.1, Or.inr fin.out.2⟩
            case measure => simp [intOf]; omega
          · go_simp
            refine (once_any (by exact k_2.out.1) 3 (by omega) (by omega)).mono ?_
            rintro e u_3 ⟨bo_3, rfl, hrb_3, hgb_3⟩
            have hgb2_3 : World.grownBy u_2 u_3 (some g) := hgb_3
            have k_3 : Hid (RdAt u_3 g a n cap ∧ w.grownBy u_3 (some g) ∧ RowS u_3 w.heap.size r cp ss) := ⟨hrb_3, grown_on k_2.out.2.1 hgb2_3, rowS_gr k_2.out.2.2 hgb2_3 hgw⟩
            have tb_3 : Hid (Box u_3 (wr.heap.size) ([⟨#[]⟩, ⟨#[97]⟩, ⟨#[100, 105, 118]⟩, ⟨#[112]⟩].map Value.string) 9) := box_other tb_2.out (by have := k_2.out.2.1.size; omega) hgb2_3
            refine hK.out _ _ trivial (fun hHeld => ?_)
            clear hK K
            refine tq (i := 12) (d := 25) ?_
            simp only [sz, Go.Proofs.Ytdlkafpemongmaa.ss]
            refine tq (i := 13) (d := 26) ?_
            simp only [sz, Go.Proofs.Ytdlkafpemongmaa.ss]
            refine wpAnyH_ready (rs := [5]) (by kernel_rfl) (by simp) ?_
            refine AllReadyH.cons rfl (fun K hK => ?_) AllReadyH.nil
            have ml_3 : mb_2 < 4 := by omega
            have zt_3 := box_str tb_3.out mb_2 (by exact ml_3)
            have hk_3 : Hid ((([⟨#[]⟩, ⟨#[97]⟩, ⟨#[100, 105, 118]⟩, ⟨#[112]⟩] : List ByteArray)[mb_2]'(by exact ml_3)).size ≤ 100) := mem_le (m := 100) (by decide) mb_2 (by exact ml_3)
            generalize ([⟨#[]⟩, ⟨#[97]⟩, ⟨#[100, 105, 118]⟩, ⟨#[112]⟩] : List ByteArray)[mb_2]'(by exact ml_3) = tg_3 at zt_3 hk_3
            go_simp
            refine hK.out _ _ trivial (fun hHeld => ?_)
            clear hK K
            refine tq (i := 14) (d := 27) ?_
            simp only [sz, Go.Proofs.Ytdlkafpemongmaa.ss]
            refine wpAnyH_ready (rs := [15]) (by kernel_rfl) (by simp) ?_
            refine AllReadyH.cons rfl (fun K hK => ?_) AllReadyH.nil
            go_simp
            have k_5 : Hid (RdAt (World.alloc u_3 (.cells #[.string tg_3, .bool (!bo_3)] 36)) g a n cap ∧ w.grownBy (World.alloc u_3 (.cells #[.string tg_3, .bool (!bo_3)] 36)) (some g) ∧ RowS (World.alloc u_3 (.cells #[.string tg_3, .bool (!bo_3)] 36)) w.heap.size r cp ss) := ⟨rd_alS k_3.out.1 _, gr_alS k_3.out.2.1 _, rowS_al k_3.out.2.2 _⟩
            have tb_5 : Hid (Box (World.alloc u_3 (.cells #[.string tg_3, .bool (!bo_3)] 36)) (wr.heap.size) ([⟨#[]⟩, ⟨#[97]⟩, ⟨#[100, 105, 118]⟩, ⟨#[112]⟩].map Value.string) 9) := tb_3.out.alloc _
            have bo1_5 : Hid (Box (World.alloc u_3 (.cells #[.string tg_3, .bool (!bo_3)] 36)) ((World.heap u_3).size) [.string tg_3, .bool (!bo_3)] 36) := Box.new u_3 _ _
            refine hK.out _ _ trivial (fun hHeld => ?_)
            clear hK K
            refine wpAnyH_ready (rs := [16]) (by kernel_rfl) (by simp) ?_
            refine AllReadyH.cons rfl (fun K hK => ?_) AllReadyH.nil
            rw [if_pos (by kernel_rfl)]
            refine wp_append_own _ _ _ 24 rfl (w.heap.size) 36 iT (.agg #[.string ⟨#[]⟩, .bool false]) 2 24 Try.underlying24 hI.out hE.out.1 hE.out.2.2 hE.out.2.1 rfl (by decide) _ (ss.length) (flatSt ss) rfl k_5.out.2.2 ⟨(World.heap u_3).size, 0, none⟩ 1 1 (flatSt [⟨tg_3, (!bo_3)⟩]) rfl rfl (news_box bo1_5.out) (flatSt_one _) (by unfold maxLen; omega) (by omega) k_5.out.2.1.size ?_
            intro v_6 u_6 hap_6 hgr_6 hnn_6
            have fin : Hid (SP w g a n cap (4 - (j - 1)) v_6 u_6 ∧ 1 ≤ vlen v_6) := sp_app k_5.out.1 k_5.out.2.1 k_5.out.2.2 hok'.out hap_6 hgr_6 hnn_6 hk_3.out hgw (by omega)
            clear hap_6 hgr_6 hnn_6
            refine hK.out _ _ trivial (fun hHeld => ?_)
            clear hK K
            refine tq (i := 17) (d := 3) ?_
            simp only [sz, Go.Proofs.Ytdlkafpemongmaa.ss]
            refine wpAnyH_done (by kernel_rfl) ?_ _
            go_wp2_with fail
            go_roundw
            case rel => exact ⟨j - 1, by omega, by rw [Int.ofNat_sub (by omega)]; rfl, fin.out.1, Or.inr fin.out.2⟩
            case measure => simp [intOf]; omega
        · go_simp
          refine (below_any (by exact hk0.out.1) 4 (by omega) (by omega)).mono ?_
          rintro e u_1 ⟨vb_1, rfl, vp_1, vl_1, hrb_1, hgb_1⟩
          obtain ⟨mb_1, rfl⟩ : ∃ m : Nat, vb_1 = (m : Int) := ⟨vb_1.toNat, by omega⟩
          have hgb2_1 : World.grownBy wr.drew u_1 (some g) := hgb_1
          have k_1 : Hid (RdAt u_1 g a n cap ∧ w.grownBy u_1 (some g) ∧ RowS u_1 w.heap.size r cp ss) := ⟨hrb_1, grown_on hk0.out.2.1 hgb2_1, rowS_gr hk0.out.2.2 hgb2_1 hgw⟩
          refine hK.out _ _ trivial (fun hHeld => ?_)
          clear hK K
          refine tq (i := 9) (d := 22) ?_
          simp only [sz, Go.Proofs.Ytdlkafpemongmaa.ss]
          refine tq (i := 10) (d := 23) ?_
          simp only [sz, Go.Proofs.Ytdlkafpemongmaa.ss]
          refine wpAnyH_ready (rs := [1, 11]) (by kernel_rfl) (by simp) ?_
          refine (AllReadyH.cons rfl (fun K hK => ?_) (AllReadyH.cons rfl (fun K hK => ?_) AllReadyH.nil))
          · go_simp
            have k_2 : Hid (RdAt (World.alloc u_1 (.cells #[.string ⟨#[]⟩, .string ⟨#[97]⟩, .string ⟨#[100, 105, 118]⟩, .string ⟨#[112]⟩] 9)) g a n cap ∧ w.grownBy (World.alloc u_1 (.cells #[.string ⟨#[]⟩, .string ⟨#[97]⟩, .string ⟨#[100, 105, 118]⟩, .string ⟨#[112]⟩] 9)) (some g) ∧ RowS (World.alloc u_1 (.cells #[.string ⟨#[]⟩, .string ⟨#[97]⟩, .string ⟨#[100, 105, 118]⟩, .string ⟨#[112]⟩] 9)) w.heap.size r cp ss) := ⟨rd_alS k_1.out.1 _, gr_alS k_1.out.2.1 _, rowS_al k_1.out.2.2 _⟩
            have tb_2 : Hid (Box (World.alloc u_1 (.cells #[.string ⟨#[]⟩, .string ⟨#[97]⟩, .string ⟨#[100, 105, 118]⟩, .string ⟨#[112]⟩] 9)) ((World.heap u_1).size) ([⟨#[]⟩, ⟨#[97]⟩, ⟨#[100, 105, 118]⟩, ⟨#[112]⟩].map Value.string) 9) := Box.new u_1 _ _
            have tl_2 : g < (World.heap u_1).size := k_1.out.1.lt
            refine hK.out _ _ trivial (fun hHeld => ?_)
            clear hK K
            refine tq (i := 4) (d := 17) ?_
            simp only [sz, Go.Proofs.Ytdlkafpemongmaa.ss]
            refine wpAnyH_ready (rs := [5, 11]) (by kernel_rfl) (by simp) ?_
            refine (AllReadyH.cons rfl (fun K hK => ?_) (AllReadyH.cons rfl (fun K hK => ?_) AllReadyH.nil))
            · have ml_2 : mb_1 < 4 := by omega
              have zt_2 := box_str tb_2.out mb_1 (by exact ml_2)
              have hk_2 : Hid ((([⟨#[]⟩, ⟨#[97]⟩, ⟨#[100, 105, 118]⟩, ⟨#[112]⟩] : List ByteArray)[mb_1]'(by exact ml_2)).size ≤ 100) := mem_le (m := 100) (by decide) mb_1 (by exact ml_2)
              generalize ([⟨#[]⟩, ⟨#[97]⟩, ⟨#[100, 105, 118]⟩, ⟨#[112]⟩] : List ByteArray)[mb_1]'(by exact ml_2) = tg_2 at zt_2 hk_2
              go_simp
              refine hK.out _ _ trivial (fun hHeld => ?_)
              clear hK K
              refine wpAnyH_ready (rs := [11]) (by kernel_rfl) (by simp) ?_
              refine AllReadyH.cons rfl (fun K hK => ?_) AllReadyH.nil
              go_simp
              refine (once_any (by exact k_2.out.1) 3 (by omega) (by omega)).mono ?_
              rintro e u_4 ⟨bo_4, rfl, hrb_4, hgb_4⟩
              have hgb2_4 : World.grownBy (World.alloc u_1 (.cells #[.string ⟨#[]⟩, .string ⟨#[97]⟩, .string ⟨#[100, 105, 118]⟩, .string ⟨#[112]⟩] 9)) u_4 (some g) := hgb_4
              have k_4 : Hid (RdAt u_4 g a n cap ∧ w.grownBy u_4 (some g) ∧ RowS u_4 w.heap.size r cp ss) := ⟨hrb_4, grown_on k_2.out.2.1 hgb2_4, rowS_gr k_2.out.2.2 hgb2_4 hgw⟩
              have tb_4 : Hid (Box u_4 ((World.heap u_1).size) ([⟨#[]⟩, ⟨#[97]⟩, ⟨#[100, 105, 118]⟩, ⟨#[112]⟩].map Value.string) 9) := box_other tb_2.out (by have := k_2.out.2.1.size; omega) hgb2_4
              refine hK.out _ _ trivial (fun hHeld => ?_)
              clear hK K
              refine tq (i := 12) (d := 25) ?_
              simp only [sz, Go.Proofs.Ytdlkafpemongmaa.ss]
              refine tq (i := 13) (d := 26) ?_
              simp only [sz, Go.Proofs.Ytdlkafpemongmaa.ss]
              refine tq (i := 14) (d := 27) ?_
              simp only [sz, Go.Proofs.Ytdlkafpemongmaa.ss]
              refine wpAnyH_ready (rs := [15]) (by kernel_rfl) (by simp) ?_
              refine AllReadyH.cons rfl (fun K hK => ?_) AllReadyH.nil
              go_simp
              have k_5 : Hid (RdAt (World.alloc u_4 (.cells #[.string tg_2, .bool (!bo_4)] 36)) g a n cap ∧ w.grownBy (World.alloc u_4 (.cells #[.string tg_2, .bool (!bo_4)] 36)) (some g) ∧ RowS (World.alloc u_4 (.cells #[.string tg_2, .bool (!bo_4)] 36)) w.heap.size r cp ss) := ⟨rd_alS k_4.out.1 _, gr_alS k_4.out.2.1 _, rowS_al k_4.out.2.2 _⟩
              have tb_5 : Hid (Box (World.alloc u_4 (.cells #[.string tg_2, .bool (!bo_4)] 36)) ((World.heap u_1).size) ([⟨#[]⟩, ⟨#[97]⟩, ⟨#[100, 105, 118]⟩, ⟨#[112]⟩].map Value.string) 9) := tb_4.out.alloc _
              have bo1_5 : Hid (Box (World.alloc u_4 (.cells #[.string tg_2, .bool (!bo_4)] 36)) ((World.heap u_4).size) [.string tg_2, .bool (!bo_4)] 36) := Box.new u_4 _ _
              refine hK.out _ _ trivial (fun hHeld => ?_)
              clear hK K
              refine wpAnyH_ready (rs := [16]) (by kernel_rfl) (by simp) ?_
              refine AllReadyH.cons rfl (fun K hK => ?_) AllReadyH.nil
              rw [if_pos (by kernel_rfl)]
              refine wp_append_own _ _ _ 24 rfl (w.heap.size) 36 iT (.agg #[.string ⟨#[]⟩, .bool false]) 2 24 Try.underlying24 hI.out hE.out.1 hE.out.2.2 hE.out.2.1 rfl (by decide) _ (ss.length) (flatSt ss) rfl k_5.out.2.2 ⟨(World.heap u_4).size, 0, none⟩ 1 1 (flatSt [⟨tg_2, (!bo_4)⟩]) rfl rfl (news_box bo1_5.out) (flatSt_one _) (by unfold maxLen; omega) (by omega) k_5.out.2.1.size ?_
              intro v_6 u_6 hap_6 hgr_6 hnn_6
              have fin : Hid (SP w g a n cap (4 - (j - 1)) v_6 u_6 ∧ 1 ≤ vlen v_6) := sp_app k_5.out.1 k_5.out.2.1 k_5.out.2.2 hok'.out hap_6 hgr_6 hnn_6 hk_2.out hgw (by omega)
              clear hap_6 hgr_6 hnn_6
              refine hK.out _ _ trivial (fun hHeld => ?_)
              clear hK K
              refine tq (i := 17) (d := 3) ?_
              simp only [sz, Go.Proofs.Ytdlkafpemongmaa.ss]
              refine wpAnyH_done (by kernel_rfl) ?_ _
              go_wp2_with fail
              go_roundw
              case rel => exact ⟨j - 1, by omega, by rw [Int.ofNat_sub (by omega)]; rfl, fin.out.1, Or.inr fin.out.2⟩
              case measure => simp [intOf]; omega
            · go_simp
              refine (once_any (by exact k_2.out.1) 3 (by omega) (by omega)).mono ?_
              rintro e u_3 ⟨bo_3, rfl, hrb_3, hgb_3⟩
              have hgb2_3 : World.grownBy (World.alloc u_1 (.cells #[.string ⟨#[]⟩, .string ⟨#[97]⟩, .string ⟨#[100, 105, 118]⟩, .string ⟨#[112]⟩] 9)) u_3 (some g) := hgb_3
              have k_3 : Hid (RdAt u_3 g a n cap ∧ w.grownBy u_3 (some g) ∧ RowS u_3 w.heap.size r cp ss) := ⟨hrb_3, grown_on k_2.out.2.1 hgb2_3, rowS_gr k_2.out.2.2 hgb2_3 hgw⟩
              have tb_3 : Hid (Box u_3 ((World.heap u_1).size) ([⟨#[]⟩, ⟨#[97]⟩, ⟨#[100, 105, 118]⟩, ⟨#[112]⟩].map Value.string) 9) := box_other tb_2.out (by have := k_2.out.2.1.size; omega) hgb2_3
              refine hK.out _ _ trivial (fun hHeld => ?_)
              clear hK K
              refine tq (i := 12) (d := 25) ?_
              simp only [sz, Go.Proofs.Ytdlkafpemongmaa.ss]
              refine tq (i := 13) (d := 26) ?_
              simp only [sz, Go.Proofs.Ytdlkafpemongmaa.ss]
              refine wpAnyH_ready (rs := [5]) (by kernel_rfl) (by simp) ?_
              refine AllReadyH.cons rfl (fun K hK => ?_) AllReadyH.nil
              have ml_3 : mb_1 < 4 := by omega
              have zt_3 := box_str tb_3.out mb_1 (by exact ml_3)
              have hk_3 : Hid ((([⟨#[]⟩, ⟨#[97]⟩, ⟨#[100, 105, 118]⟩, ⟨#[112]⟩] : List ByteArray)[mb_1]'(by exact ml_3)).size ≤ 100) := mem_le (m := 100) (by decide) mb_1 (by exact ml_3)
              generalize ([⟨#[]⟩, ⟨#[97]⟩, ⟨#[100, 105, 118]⟩, ⟨#[112]⟩] : List ByteArray)[mb_1]'(by exact ml_3) = tg_3 at zt_3 hk_3
              go_simp
              refine hK.out _ _ trivial (fun hHeld => ?_)
              clear hK K
              refine tq (i := 14) (d := 27) ?_
              simp only [sz, Go.Proofs.Ytdlkafpemongmaa.ss]
              refine wpAnyH_ready (rs := [15]) (by kernel_rfl) (by simp) ?_
              refine AllReadyH.cons rfl (fun K hK => ?_) AllReadyH.nil
              go_simp
              have k_5 : Hid (RdAt (World.alloc u_3 (.cells #[.string tg_3, .bool (!bo_3)] 36)) g a n cap ∧ w.grownBy (World.alloc u_3 (.cells #[.string tg_3, .bool (!bo_3)] 36)) (some g) ∧ RowS (World.alloc u_3 (.cells #[.string tg_3, .bool (!bo_3)] 36)) w.heap.size r cp ss) := ⟨rd_alS k_3.out.1 _, gr_alS k_3.out.2.1 _, rowS_al k_3.out.2.2 _⟩
              have tb_5 : Hid (Box (World.alloc u_3 (.cells #[.string tg_3, .bool (!bo_3)] 36)) ((World.heap u_1).size) ([⟨#[]⟩, ⟨#[97]⟩, ⟨#[100, 105, 118]⟩, ⟨#[112]⟩].map Value.string) 9) := tb_3.out.alloc _
              have bo1_5 : Hid (Box (World.alloc u_3 (.cells #[.string tg_3, .bool (!bo_3)] 36)) ((World.heap u_3).size) [.string tg_3, .bool (!bo_3)] 36) := Box.new u_3 _ _
              refine hK.out _ _ trivial (fun hHeld => ?_)
              clear hK K
              refine wpAnyH_ready (rs := [16]) (by kernel_rfl) (by simp) ?_
              refine AllReadyH.cons rfl (fun K hK => ?_) AllReadyH.nil
              rw [if_pos (by kernel_rfl)]
              refine wp_append_own _ _ _ 24 rfl (w.heap.size) 36 iT (.agg #[.string ⟨#[]⟩, .bool false]) 2 24 Try.underlying24 hI.out hE.out.1 hE.out.2.2 hE.out.2.1 rfl (by decide) _ (ss.length) (flatSt ss) rfl k_5.out.2.2 ⟨(World.heap u_3).size, 0, none⟩ 1 1 (flatSt [⟨tg_3, (!bo_3)⟩]) rfl rfl (news_box bo1_5.out) (flatSt_one _) (by unfold maxLen; omega) (by omega) k_5.out.2.1.size ?_
              intro v_6 u_6 hap_6 hgr_6 hnn_6
              have fin : Hid (SP w g a n cap (4 - (j - 1)) v_6 u_6 ∧ 1 ≤ vlen v_6) := sp_app k_5.out.1 k_5.out.2.1 k_5.out.2.2 hok'.out hap_6 hgr_6 hnn_6 hk_3.out hgw (by omega)
              clear hap_6 hgr_6 hnn_6
              refine hK.out _ _ trivial (fun hHeld => ?_)
              clear hK K
              refine tq (i := 17) (d := 3) ?_
              simp only [sz, Go.Proofs.Ytdlkafpemongmaa.ss]
              refine wpAnyH_done (by kernel_rfl) ?_ _
              go_wp2_with fail
              go_roundw
              case rel => exact ⟨j - 1, by omega, by rw [Int.ofNat_sub (by omega)]; rfl, fin.out.1, Or.inr fin.out.2⟩
              case measure => simp [intOf]; omega
          · go_simp
            refine (once_any (by exact k_1.out.1) 3 (by omega) (by omega)).mono ?_
            rintro e u_2 ⟨bo_2, rfl, hrb_2, hgb_2⟩
            have hgb2_2 : World.grownBy u_1 u_2 (some g) := hgb_2
            have k_2 : Hid (RdAt u_2 g a n cap ∧ w.grownBy u_2 (some g) ∧ RowS u_2 w.heap.size r cp ss) := ⟨hrb_2, grown_on k_1.out.2.1 hgb2_2, rowS_gr k_1.out.2.2 hgb2_2 hgw⟩
            refine hK.out _ _ trivial (fun hHeld => ?_)
            clear hK K
            refine tq (i := 12) (d := 25) ?_
            simp only [sz, Go.Proofs.Ytdlkafpemongmaa.ss]
            refine tq (i := 13) (d := 26) ?_
            simp only [sz, Go.Proofs.Ytdlkafpemongmaa.ss]
            refine wpAnyH_ready (rs := [1]) (by kernel_rfl) (by simp) ?_
            refine AllReadyH.cons rfl (fun K hK => ?_) AllReadyH.nil
            go_simp
            have k_3 : Hid (RdAt (World.alloc u_2 (.cells #[.string ⟨#[]⟩, .string ⟨#[97]⟩, .string ⟨#[100, 105, 118]⟩, .string ⟨#[112]⟩] 9)) g a n cap ∧ w.grownBy (World.alloc u_2 (.cells #[.string ⟨#[]⟩, .string ⟨#[97]⟩, .string ⟨#[100, 105, 118]⟩, .string ⟨#[112]⟩] 9)) (some g) ∧ RowS (World.alloc u_2 (.cells #[.string ⟨#[]⟩, .string ⟨#[97]⟩, .string ⟨#[100, 105, 118]⟩, .string ⟨#[112]⟩] 9)) w.heap.size r cp ss) := ⟨rd_alS k_2.out.1 _, gr_alS k_2.out.2.1 _, rowS_al k_2.out.2.2 _⟩
            have tb_3 : Hid (Box (World.alloc u_2 (.cells #[.string ⟨#[]⟩, .string ⟨#[97]⟩, .string ⟨#[100, 105, 118]⟩, .string ⟨#[112]⟩] 9)) ((World.heap u_2).size) ([⟨#[]⟩, ⟨#[97]⟩, ⟨#[100, 105, 118]⟩, ⟨#[112]⟩].map Value.string) 9) := Box.new u_2 _ _
            have tl_3 : g < (World.heap u_2).size := k_2.out.1.lt
            refine hK.out _ _ trivial (fun hHeld => ?_)
            clear hK K
            refine tq (i := 4) (d := 17) ?_
            simp only [sz, Go.Proofs.Ytdlkafpemongmaa.ss]
            refine wpAnyH_ready (rs := [5]) (by kernel_rfl) (by simp) ?_
            refine AllReadyH.cons rfl (fun K hK => ?_) AllReadyH.nil
            have ml_3 : mb_1 < 4 := by omega
            have zt_3 := box_str tb_3.out mb_1 (by exact ml_3)
            have hk_3 : Hid ((([⟨#[]⟩, ⟨#[97]⟩, ⟨#[100, 105, 118]⟩, ⟨#[112]⟩] : List ByteArray)[mb_1]'(by exact ml_3)).size ≤ 100) := mem_le (m := 100) (by decide) mb_1 (by exact ml_3)
            generalize ([⟨#[]⟩, ⟨#[97]⟩, ⟨#[100, 105, 118]⟩, ⟨#[112]⟩] : List ByteArray)[mb_1]'(by exact ml_3) = tg_3 at zt_3 hk_3
            go_simp
            refine hK.out _ _ trivial (fun hHeld => ?_)
            clear hK K
            refine tq (i := 14) (d := 27) ?_
            simp only [sz, Go.Proofs.Ytdlkafpemongmaa.ss]
            refine wpAnyH_ready (rs := [15]) (by kernel_rfl) (by simp) ?_
            refine AllReadyH.cons rfl (fun K hK => ?_) AllReadyH.nil
            go_simp
            have k_5 : Hid (RdAt (World.alloc (World.alloc u_2 (.cells #[.string ⟨#[]⟩, .string ⟨#[97]⟩, .string ⟨#[100, 105, 118]⟩, .string ⟨#[112]⟩] 9)) (.cells #[.string tg_3, .bool (!bo_2)] 36)) g a n cap ∧ w.grownBy (World.alloc (World.alloc u_2 (.cells #[.string ⟨#[]⟩, .string ⟨#[97]⟩, .string ⟨#[100, 105, 118]⟩, .string ⟨#[112]⟩] 9)) (.cells #[.string tg_3, .bool (!bo_2)] 36)) (some g) ∧ RowS (World.alloc (World.alloc u_2 (.cells #[.string ⟨#[]⟩, .string ⟨#[97]⟩, .string ⟨#[100, 105, 118]⟩, .string ⟨#[112]⟩] 9)) (.cells #[.string tg_3, .bool (!bo_2)] 36)) w.heap.size r cp ss) := ⟨rd_alS k_3.out.1 _, gr_alS k_3.out.2.1 _, rowS_al k_3.out.2.2 _⟩
            have tb_5 : Hid (Box (World.alloc (World.alloc u_2 (.cells #[.string ⟨#[]⟩, .string ⟨#[97]⟩, .string ⟨#[100, 105, 118]⟩, .string ⟨#[112]⟩] 9)) (.cells #[.string tg_3, .bool (!bo_2)] 36)) ((World.heap u_2).size) ([⟨#[]⟩, ⟨#[97]⟩, ⟨#[100, 105, 118]⟩, ⟨#[112]⟩].map Value.string) 9) := tb_3.out.alloc _
            have bo0_5 := Box.new (World.alloc u_2 (.cells #[.string ⟨#[]⟩, .string ⟨#[97]⟩, .string ⟨#[100, 105, 118]⟩, .string ⟨#[112]⟩] 9)) [.string tg_3, .bool (!bo_2)] 36
            simp only [World.size_alloc] at bo0_5
            have bo1_5 : Hid (Box (World.alloc (World.alloc u_2 (.cells #[.string ⟨#[]⟩, .string ⟨#[97]⟩, .string ⟨#[100, 105, 118]⟩, .string ⟨#[112]⟩] 9)) (.cells #[.string tg_3, .bool (!bo_2)] 36)) ((World.heap u_2).size + 1) [.string tg_3, .bool (!bo_2)] 36) := bo0_5
            clear bo0_5
            refine hK.out _ _ trivial (fun hHeld => ?_)
            clear hK K
            refine wpAnyH_ready (rs := [16]) (by kernel_rfl) (by simp) ?_
            refine AllReadyH.cons rfl (fun K hK => ?_) AllReadyH.nil
            rw [if_pos (by kernel_rfl)]
            refine wp_append_own _ _ _ 24 rfl (w.heap.size) 36 iT (.agg #[.string ⟨#[]⟩, .bool false]) 2 24 Try.underlying24 hI.out hE.out.1 hE.out.2.2 hE.out.2.1 rfl (by decide) _ (ss.length) (flatSt ss) rfl k_5.out.2.2 ⟨(World.heap u_2).size + 1, 0, none⟩ 1 1 (flatSt [⟨tg_3, (!bo_2)⟩]) rfl rfl (news_box bo1_5.out) (flatSt_one _) (by unfold maxLen; omega) (by omega) k_5.out.2.1.size ?_
            intro v_6 u_6 hap_6 hgr_6 hnn_6
            have fin : Hid (SP w g a n cap (4 - (j - 1)) v_6 u_6 ∧ 1 ≤ vlen v_6) := sp_app k_5.out.1 k_5.out.2.1 k_5.out.2.2 hok'.out hap_6 hgr_6 hnn_6 hk_3.out hgw (by omega)
            clear hap_6 hgr_6 hnn_6
            refine hK.out _ _ trivial (fun hHeld => ?_)
            clear hK K
            refine tq (i := 17) (d := 3) ?_
            simp only [sz, Go.Proofs.Ytdlkafpemongmaa.ss]
            refine wpAnyH_done (by kernel_rfl) ?_ _
            go_wp2_with fail
            go_roundw
            case rel => exact ⟨j - 1, by omega, by rw [Int.ofNat_sub (by omega)]; rfl, fin.out.1, Or.inr fin.out.2⟩
            case measure => simp [intOf]; omega
    · obtain rfl : j = 0 := by omega
      go_wp2_with fail
      refine (once_any hrd'.out 30 (by omega) (by omega)).mono ?_
      rintro e w9 ⟨bb, rfl, hr9, hg9⟩
      have ho9 : Hid (RowS w9 w.heap.size r cp ss) := rowS_gr hrow'.out hg9 hgw
      have hr9' : Hid (RdAt w9 g a n cap) := hr9
      have hg9' : Hid (w.grownBy w9 (some g)) := grown_on hgr'.out hg9
      clear hr9 hg9 hrow' hrd' hgr'
      rcases (show bb = false ∨ bb = true by cases bb <;> simp) with rfl | rfl
      · go_wp2_with fail
        go_ret
        exact ⟨⟨ss, r, cp, rfl, ho9.out, by omega, hok'.out⟩, hr9'.out, hg9'.out⟩
      · have hpos : 1 ≤ ss.length := by
          rcases hlo.out with q | q
          · omega
          · simpa [vlen] using q
        obtain ⟨x, s2, rfl⟩ : ∃ x s2, ss = x :: s2 := by
          cases ss with
          | nil => simp at hpos
          | cons x s2 => exact ⟨x, s2, rfl⟩
        obtain ⟨cS, uS, hR⟩ := rowS_first ho9.out
        have hR' : Hid (RowS (w9.setCell ⟨r, 1, none⟩ (.bool false)) w.heap.size r cp (⟨x.vTag, false⟩ :: s2)) := hR
        have hrF : Hid (RdAt (w9.setCell ⟨r, 1, none⟩ (.bool false)) g a n cap) := hr9'.out.keep (fun b hb => set_other (by omega) _)
        have hgF : Hid (w.grownBy (w9.setCell ⟨r, 1, none⟩ (.bool false)) (some g)) := ⟨hg9'.out.os, hg9'.out.tape, hg9'.out.output, by rw [set_size]; exact hg9'.out.size, fun b hb hn => (set_other (by omega) _).trans (hg9'.out.block b hb hn)⟩
        have hln : ((x :: s2).length : Nat) = s2.length + 1 := rfl
        have hl0 : (0 : Int) < ((s2.length + 1 : Nat) : Int) := by omega
        clear hR
        go_wp2_with fail
        go_ret
        exact ⟨⟨⟨x.vTag, false⟩ :: s2, r, cp, by simp, hR'.out, by simp at hsl ⊢; omega, fun y hy => by rcases List.mem_cons.1 hy with rfl | hy; exact hok'.out x List.mem_cons_self; exact hok'.out y (List.mem_cons_of_mem _ hy)⟩, hrF.out, hgF.out⟩
end Go.Proofs.Ytdlkafpemongmaa
