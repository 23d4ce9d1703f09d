/- What Closest returns, that of the specification and that of the program. -/
import Derived.Test.YtddhacalnfkopaaAtSpec
import Derived.Test.YtddhacalnfkopaaWayImpl
import Derived.Test.YtddhacalnfkopaaListCopy
import Derived.Test.YtddhacalnfkopaaAppendInts
import Derived.Test.YtddhacalnfkopaaOkWalks
import Derived.Laws.Cover1
namespace Go.Proofs.Ytddhacalnfkopaa
open Go.RowKit
/-- the tag of the i-th on the way -/
def tgC {H : Type} (d : DataW H) (path : List Int) (i : Nat) : ByteArray := strT (endP d (path.take i))
/-- the last of the first q on the way that has the tag -/
def clo (tg : Nat → ByteArray) (tag : ByteArray) : Nat → Option Nat
  | 0 => none
  | q + 1 => if tg q = tag then some q else clo tg tag q
theorem clo_hit {tg : Nat → ByteArray} {tag : ByteArray} {q : Nat} (h : tg q = tag) : clo tg tag (q + 1) = some q := by simp [clo, h]
theorem clo_on {tg : Nat → ByteArray} {tag : ByteArray} {q : Nat} (h : ¬ tg q = tag) : clo tg tag (q + 1) = clo tg tag q := by simp [clo, h]
def resC (path : List Int) : Option Nat → List Int × Bool
  | none => ([], false)
  | some q => (path.take q, true)
/-- what Closest tells -/
def closeD {H : Type} (ok : Bool) (d : DataW H) (path : List Int) (tag : ByteArray) : List Int × Bool := if (ok && okP d path) = true then resC path (clo (tgC d path) tag (path.length + 1)) else ([], false)
theorem closeD_no {H : Type} {ok : Bool} {d : DataW H} {path : List Int} {tag : ByteArray} (h : (ok && okP d path) = false) : closeD ok d path tag = ([], false) := by simp [closeD, h]
theorem closeD_yes {H : Type} {ok : Bool} {d : DataW H} {path : List Int} {tag : ByteArray} (h : ok = true) (h2 : okP d path = true) : closeD ok d path tag = resC path (clo (tgC d path) tag (path.length + 1)) := by simp [closeD, h, h2]
theorem clo_le {tg : Nat → ByteArray} {tag : ByteArray} : ∀ {q r : Nat}, clo tg tag q = some r → r < q := by
  intro q
  induction q with
  | zero => intro r h; cases h
  | succ q ih =>
    intro r h
    unfold clo at h
    split at h
    · injection h with h; omega
    · have := ih h; omega
theorem closeD_len {H : Type} (ok : Bool) (d : DataW H) (path : List Int) (tag : ByteArray) : (closeD ok d path tag).1.length ≤ path.length := by
  unfold closeD
  split
  · cases clo (tgC d path) tag (path.length + 1) with
    | none => simp [resC]
    | some q => simp [resC]; omega
  · simp
def AnsC (w w' : World) (r : List Int × Bool) (e : Ending) : Prop := ∃ (v : Value) (fs : List Nat), e = .returned (.tuple #[v, .bool r.2]) ∧ SeqOwn 1 IntOwn w' v r.1 fs ∧ fs.Nodup ∧ ∀ b ∈ fs, w.heap.size ≤ b
theorem ansC_none (w w' : World) : AnsC w w' ([], false) (.returned (.tuple #[.slice none 0 0, .bool false])) := ⟨_, [], rfl, seqOwn_none _, List.nodup_nil, by simp⟩
theorem cutI {a : Option Addr} {n cap j : Nat} (h : j ≤ cap) : ∀ W : World, Sem.run Try.prog (Instr.sliceAt 37 (.slice a n cap) none (some (.int .i64 (j : Int))) none) W = .ok (.slice a j cap) W := fun W => by
  have e : sliced a 0 j cap 1 = .slice a j cap := by
    unfold sliced
    cases a <;> simp [Addr.add]
  rw [← e]
  simp [Instr.sliceAt, Instr.slice, run_underlying Try.underlying37, Instr.sliceBounds, run_sliceBound, sliced, Try.sizeOf2, Result.andThen, h]
theorem eq_list3 {a b : ByteArray} (h : ¬ a = b) : ¬ a.toList = b.toList := by
  intro e
  rw [ByteArray.toList_eq, ByteArray.toList_eq] at e
  apply h
  cases a; cases b
  simp at e
  rw [e]
theorem two_b4 (b : Bool) : b = false ∨ b = true := by cases b <;> simp
set_option maxHeartbeats 4000000 in
theorem implClosest_any {H : Type} {n : Nat} {w : World} {lo lo2 : Nat} {t k kp : Value} {d : DataW H} {path : List Int} (tag : ByteArray) (ht : TreeAt w lo n t k d) (hp : SeqAt 1 IntAt w lo2 kp path) (hpl : path.length ≤ 1048576) :
    Calls Try.prog 37 #[.agg #[t, k], kp, .string tag] w fun e w' => AnsC w w' (closeD (okB (szD n d 30)) d path tag) e ∧ Below w.heap.size w w' := by
  obtain ⟨rfl, _⟩ := ht.tag
  obtain ⟨_, a0, cap0, rfl⟩ := ht.form
  have ht0 : Hid (TreeAt w lo n _ _ d) := ht
  have hp0 : Hid (SeqAt 1 IntAt w lo2 kp path) := hp
  obtain ⟨ap, capp, rfl, hpm, _⟩ := hp
  unfold maxLen at hpm
  clear ht
  have hb0 : Hid (Below w.heap.size w (w.alloc (.cells #[.string (strT d), .slice a0 (kidsOf d).length cap0] 33))) := (Below.refl _ _).alloc (Nat.le_refl _) _
  go_enter Try.func37, Try.ntmps37
  go_wp2_with fail
  refine (wayTo_any (ht0.out.below hb0.out) (hp0.out.below intAt_stays hb0.out) hpl).mono ?_
  rintro e w1 ⟨hres, hb1⟩
  have hB1 : Hid (Below w.heap.size w w1) := hb0.out.trans (hb1.mono hb0.out.size)
  clear hb1
  rcases hres with ⟨hok, hoP, kw, rfl, hway⟩ | ⟨hno, rfl⟩
  · have H : Hid (closeD (okB (szD n d 30)) d path tag = resC path (clo (tgC d path) tag (path.length + 1))) := closeD_yes hok hoP
    obtain ⟨aw, cw, rfl, hwm, hwx⟩ := hway
    have hwl : (wayJ d path path.length).length = path.length + 1 := wayJ_length _ _ _
    obtain ⟨bw, ow, rfl, _, hbw, hwc⟩ := hwx (by omega)
    have hz : Hid (∀ i, i ≤ path.length → w1.cell? ⟨bw, ow + i * 2, none⟩ = some (.string (tgC d path i))) := fun i hi => by
      obtain ⟨cs, _, lie, m, ax, cx, rfl, _⟩ := hwc i (by omega)
      have z0 := lie 0 (by simp)
      simp only [List.getElem?_cons_zero, Nat.add_zero] at z0
      rw [wayJ_get] at z0
      exact z0
    rw [hwl]
    generalize hL : path.length + 1 = L
    have hL' : Hid (path.length + 1 = L) := hL
    clear hok hoP hwx hwc hwm hwl hL hbw
    go_wp2_with fail
    go_loopw [10] (fun i wr => ∃ q : Nat, q ≤ path.length + 1 ∧ i = .int .i64 ((q : Int) - 1) ∧ wr = w1 ∧ Hid (clo (tgC d path) tag (path.length + 1) = clo (tgC d path) tag q)) (fun i _ => (intOf i + 1).toNat)
    case atStart => exact ⟨path.length + 1, Nat.le_refl _, by congr 1; omega, rfl, rfl⟩
    case round =>
      obtain ⟨qq, hqq, rfl, rfl, hup0⟩ := hrel
      rcases Nat.eq_zero_or_pos qq with e | e
      · subst e
        rw [show ((0 : Nat) : Int) - 1 = -1 by omega]
        go_wp2_with fail
        go_ret2
        refine ⟨?_, hB1.out⟩
        rw [H.out, hup0.out]
        exact ansC_none _ _
      · obtain ⟨q, rfl⟩ : ∃ q, qq = q + 1 := ⟨qq - 1, by omega⟩
        rw [show ((q + 1 : Nat) : Int) - 1 = (q : Int) by omega]
        have hup : Hid (clo (tgC d path) tag (path.length + 1) = clo (tgC d path) tag (q + 1)) := hup0
        have hq : q ≤ path.length := by omega
        have hq0 : (0 : Int) ≤ (q : Int) := by omega
        have hql : (q : Int) < (L : Int) := by have := hL'.out; omega
        have hwq : IntKind.i64.wrap ((q : Int) - 1) = (q : Int) - 1 := by rw [IntKind.wrap_i64]; omega
        have z0 := hz.out q hq
        have hcp := cutI (a := ap) (n := path.length) (cap := capp) (j := q) (by omega)
        clear hup0 hqq e
        by_cases he : tgC d path q = tag
        · have hc : Hid (clo (tgC d path) tag (q + 1) = some q) := clo_hit he
          rw [he] at z0
          clear he
          go_wp2_with fail
          refine (listCopyI_any (xs := path.take q) (lo := lo2) (by have := (SeqAt.take hp0.out q hq).below intAt_stays hB1.out; exact this) (by rw [List.length_take]; omega)).mono ?_
          rintro e w2 ⟨⟨v, rfl, hv⟩, hb2⟩
          have hv' : Hid (AnsI wr w2 v (path.take q)) := hv
          clear hv
          go_wp2_with fail
          go_ret2
          refine ⟨?_, hB1.out.trans (hb2.mono hB1.out.size)⟩
          rw [H.out, hup.out, hc.out]
          obtain ⟨fs, h1, h2, h3⟩ := hv'.out
          exact ⟨v, fs, rfl, h1, h2, fun b qb => Nat.le_trans hB1.out.size (h3 b qb)⟩
        · have hc : Hid (clo (tgC d path) tag (q + 1) = clo (tgC d path) tag q) := clo_on he
          have h1 := eq_list3 he
          have h2 : ((tgC d path q).toList == tag.toList) = false := by simpa using h1
          clear he
          go_wp2_with fail
          go_roundw
          case rel => exact ⟨q, by omega, rfl, by first | trivial | rfl, by show _ = _; rw [hup.out, hc.out]⟩
          case measure => simp [intOf]
  · have H : Hid (closeD (okB (szD n d 30)) d path tag = ([], false)) := closeD_no hno
    clear hno
    go_wp2_with fail
    go_ret2
    refine ⟨?_, hB1.out⟩
    rw [H.out]
    exact ansC_none _ _
set_option maxRecDepth 100000 in
set_option maxHeartbeats 8000000 in
theorem specClosest_any {H : Type} {n : Nat} {w : World} {lo lo2 : Nat} {t k kp : Value} {d : DataW H} {path : List Int} (tag : ByteArray) (ht : TreeAt w lo n t k d) (hp : SeqAt 1 IntAt w lo2 kp path) (hpl : path.length ≤ 1048576) :
    Calls Try.prog 38 #[.agg #[t, k], kp, .string tag] w fun e w' => AnsC w w' (closeD (okB (szD n d 30)) d path tag) e ∧ Below w.heap.size w w' := by
  obtain ⟨rfl, _⟩ := ht.tag
  obtain ⟨_, a0, cap0, rfl⟩ := ht.form
  have ht0 : Hid (TreeAt w lo n _ _ d) := ht
  have hp0 : Hid (SeqAt 1 IntAt w lo2 kp path) := hp
  obtain ⟨ap, capp, rfl, hpm, hpx⟩ := hp
  unfold maxLen at hpm
  have hIp : Hid (∀ x ∈ path, InI x) := fun x hx => by
    obtain ⟨i, hi, rfl⟩ := List.getElem_of_mem hx
    obtain ⟨b, off, _, _, _, hc⟩ := hpx (by omega)
    obtain ⟨cs, _, _, hr⟩ := hc i hi
    exact hr.2
  obtain ⟨iI, hiI0, heI0, heI1, heI2⟩ := info_parts2 infoI
  have hiI : Hid (Try.prog.info? 2 = some iI) := hiI0
  have heI : Hid (iI.zero = some (.int .i64 0) ∧ iI.size = 1 ∧ iI.bytes = 8) := ⟨heI0, heI1, heI2⟩
  clear ht hpx hiI0 heI0 heI1 heI2
  have hb0 : Hid (Below w.heap.size w (w.alloc (.cells #[.string (strT d), .slice a0 (kidsOf d).length cap0] 33))) := (Below.refl _ _).alloc (Nat.le_refl _) _
  have bx0 : Hid (Box (w.alloc (.cells #[.string (strT d), .slice a0 (kidsOf d).length cap0] 33)) w.heap.size [.string (strT d), .slice a0 (kidsOf d).length cap0] 33) := Box.new w _ _
  go_enter Try.func38, Try.ntmps38
  go_wp2_with fail
  refine (l9At_any (ht0.out.below hb0.out) (hp0.out.below intAt_stays hb0.out)).mono ?_
  rintro e w1 ⟨hres, hb1⟩
  have hB1 : Hid (Below w.heap.size w w1) := hb0.out.trans (hb1.mono hb0.out.size)
  have bx1 : Hid (Box w1 w.heap.size [.string (strT d), .slice a0 (kidsOf d).length cap0] 33) := bx0.out.below hb1 bx0.out.lt
  clear hb1 bx0 hb0
  obtain ⟨X, aX, nX, cX, rfl⟩ : ∃ (X : ByteArray) (aX : Option Addr) (nX cX : Nat), e = .returned (.tuple #[.agg #[.string X, .slice aX nX cX], .bool (okP d path)]) := by
    rcases hres with ⟨e1, m, a, c, e2, _⟩ | ⟨e1, e2⟩
    · exact ⟨_, _, _, _, by rw [e2, e1]⟩
    · exact ⟨_, _, _, _, by rw [e2, e1]⟩
  clear hres
  have hB2 : Hid (Below w.heap.size w (w1.alloc (.cells #[.string X, .slice aX nX cX] 33))) := hB1.out.alloc hB1.out.size _
  have bx2 : Hid (Box (w1.alloc (.cells #[.string X, .slice aX nX cX] 33)) w.heap.size [.string (strT d), .slice a0 (kidsOf d).length cap0] 33) := bx1.out.alloc _
  have c0 := bx1.out.cell 0 rfl
  have c1 := bx1.out.cell 1 rfl
  have hlt1 : w.heap.size < w1.heap.size := bx1.out.lt
  clear bx1 hB1
  go_wp2_with fail
  generalize (w1.alloc (.cells #[.string X, .slice aX nX cX] 33)) = W at hB2 bx2
  clear c0 c1
  refine (specTreeOk_any (ht0.out.below hB2.out)).mono ?_
  rintro e w3 ⟨rfl, hb3⟩
  have hB3 : Hid (Below w.heap.size w w3) := hB2.out.trans (hb3.mono hB2.out.size)
  have bx3 : Hid (Box w3 w.heap.size [.string (strT d), .slice a0 (kidsOf d).length cap0] 33) := bx2.out.below hb3 bx2.out.lt
  clear hb3 bx2 hB2
  rcases two_b4 (okB (szD n d 30)) with hok | hok
  · have H : Hid (closeD (okB (szD n d 30)) d path tag = ([], false)) := closeD_no (by rw [hok]; rfl)
    rw [hok]
    clear hok
    go_wp2_with fail
    go_ret2
    refine ⟨?_, hB3.out⟩
    rw [H.out]
    exact ansC_none _ _
  have hok' : Hid (okB (szD n d 30) = true) := hok
  rw [hok]
  clear hok
  rcases two_b4 (okP d path) with hoP | hoP
  · have H : Hid (closeD (okB (szD n d 30)) d path tag = ([], false)) := closeD_no (by rw [hoP]; simp)
    rw [hoP]
    clear hoP
    go_wp2_with fail
    go_ret2
    refine ⟨?_, hB3.out⟩
    rw [H.out]
    exact ansC_none _ _
  have hoP' : Hid (okP d path = true) := hoP
  have H : Hid (closeD (okB (szD n d 30)) d path tag = resC path (clo (tgC d path) tag (path.length + 1))) := closeD_yes hok'.out hoP
  rw [hoP]
  clear hoP
  go_wp2_with fail
  go_loopw [10] (fun i wr => ∃ q : Nat, q ≤ path.length + 1 ∧ i = .int .i64 ((q : Int) - 1) ∧ Hid (Below w.heap.size w wr) ∧ Hid (Box wr w.heap.size [.string (strT d), .slice a0 (kidsOf d).length cap0] 33) ∧ Hid (clo (tgC d path) tag (path.length + 1) = clo (tgC d path) tag q)) (fun i _ => (intOf i + 1).toNat)
  case atStart => exact ⟨path.length + 1, Nat.le_refl _, by congr 1; omega, hB3, bx3, rfl⟩
  case round =>
    obtain ⟨qq, hqq, rfl, hb, bx, hup0⟩ := hrel
    rcases Nat.eq_zero_or_pos qq with e | e
    · subst e
      rw [show ((0 : Nat) : Int) - 1 = -1 by omega]
      go_wp2_with fail
      go_ret2
      refine ⟨?_, hb.out⟩
      rw [H.out, hup0.out]
      exact ansC_none _ _
    · obtain ⟨q, rfl⟩ : ∃ q, qq = q + 1 := ⟨qq - 1, by omega⟩
      rw [show ((q + 1 : Nat) : Int) - 1 = (q : Int) by omega]
      have hup : Hid (clo (tgC d path) tag (path.length + 1) = clo (tgC d path) tag (q + 1)) := hup0
      have hq : q ≤ path.length := by omega
      have hq0 : (0 : Int) ≤ (q : Int) := by omega
      have hwq : IntKind.i64.wrap ((q : Int) - 1) = (q : Int) - 1 := by rw [IntKind.wrap_i64]; omega
      have hcp := cutI (a := ap) (n := path.length) (cap := capp) (j := q) (by omega)
      have c0 := bx.out.cell 0 rfl
      have c1 := bx.out.cell 1 rfl
      clear hup0 hqq e
      go_wp2_with fail
      refine wp_region_held_drew (S := fun w' => w'.cell? ⟨w.heap.size, 0, none⟩ = some (.string (strT d)) ∧ w'.cell? ⟨w.heap.size, 1, none⟩ = some (.slice a0 (kidsOf d).length cap0)) (by kernel_rfl) ⟨c0, c1⟩ (fun hHeld => ?_)
      refine take_lit (i := 0) (d := 33) (v := ?_) rfl rfl (by kernel_rfl) (by kernel_rfl) (by kernel_rfl) (fun _ _ _ h => h) (Or.inl ⟨by rfl, ?_⟩) (by assumption) ?_
      rotate_left
      · (intro w hSw; (try dsimp only at hSw); first | (go_simp; done) | (go_simp; with_reducible rfl))
      simp only [List.set_cons_zero, List.set_cons_succ]
      refine take_lit (i := 1) (d := 34) (v := ?_) rfl rfl (by kernel_rfl) (by kernel_rfl) (by kernel_rfl) (fun _ _ _ h => h) (Or.inl ⟨by rfl, ?_⟩) (by assumption) ?_
      rotate_left
      · (intro w hSw; (try dsimp only at hSw); first | (go_simp; done) | (go_simp; with_reducible rfl))
      simp only [List.set_cons_zero, List.set_cons_succ]
      refine take_lit (i := 2) (d := 35) (v := ?_) rfl rfl (by kernel_rfl) (by kernel_rfl) (by kernel_rfl) (fun _ _ _ h => h) (Or.inl ⟨by rfl, ?_⟩) (by assumption) ?_
      rotate_left
      · (intro w hSw; (try dsimp only at hSw); first | (go_simp; done) | (go_simp; with_reducible rfl))
      simp only [List.set_cons_zero, List.set_cons_succ]
      refine take_lit (i := 3) (d := 36) (v := .slice ap q capp) rfl rfl (by kernel_rfl) (by kernel_rfl) (by kernel_rfl) (fun _ _ _ h => h) (Or.inl ⟨by rfl, ?_⟩) (by assumption) ?_
      · (intro w' hSw; (try dsimp only at hSw); have hr := hcp w'; go_simp)
      simp only [List.set_cons_zero, List.set_cons_succ]
      refine wpAnyH_ready (rs := [4, 8]) (by kernel_rfl) (by simp) ?_
      refine (AllReadyH.cons rfl (fun K hK => ?_) (AllReadyH.cons rfl (fun K hK => ?_) AllReadyH.nil))
      · go_simp
        refine (l9At_any (path := path.take q) (by exact TreeAt.below ht0.out (Below.drew hb.out)) (by exact SeqAt.below intAt_stays (SeqAt.take hp0.out q hq) (Below.drew hb.out))).mono ?_
        rintro e w5 ⟨hres5, hb5⟩
        obtain ⟨ax, cx, rfl⟩ : ∃ ax cx, e = .returned (.tuple #[.agg #[.string (tgC d path q), .slice ax (kidsOf (endP d (path.take q))).length cx], .bool true]) := by rcases hres5 with ⟨_, mm, ax, cx, e1, _⟩ | ⟨hno, _⟩; (exact ⟨ax, cx, e1⟩); (rw [okP_take hoP'.out q] at hno; cases hno)
        generalize (kidsOf (endP d (path.take q))).length = nx
        have hB5 : Hid (Below w.heap.size w w5) := Below.trans (Below.drew hb.out) (Below.mono hb5 (Below.size (Below.drew hb.out)))
        have b5 : Hid (Box w5 w.heap.size [.string (strT d), .slice a0 (kidsOf d).length cap0] 33) := Box.below (show Box wr.drew w.heap.size [.string (strT d), .slice a0 (kidsOf d).length cap0] 33 from bx.out) hb5 (Box.lt (show Box wr.drew w.heap.size [.string (strT d), .slice a0 (kidsOf d).length cap0] 33 from bx.out))
        clear hres5
        refine hK.out _ _ ⟨cell_on hb5 hHeld.1, cell_on hb5 hHeld.2⟩ (fun hHeld => ?_)
        clear hK K
        refine take_lit (i := 5) (d := 32) (v := ?_) rfl rfl (by kernel_rfl) (by kernel_rfl) (by kernel_rfl) (fun _ _ _ h => h) (Or.inl ⟨by rfl, ?_⟩) (by assumption) ?_
        rotate_left
        · (intro w hSw; (try dsimp only at hSw); first | (go_simp; done) | (go_simp; with_reducible rfl))
        simp only [List.set_cons_zero, List.set_cons_succ]
        refine take_lit (i := 6) (d := 38) (v := ?_) rfl rfl (by kernel_rfl) (by kernel_rfl) (by kernel_rfl) (fun _ _ _ h => h) (Or.inl ⟨by rfl, ?_⟩) (by assumption) ?_
        rotate_left
        · (intro w hSw; (try dsimp only at hSw); first | (go_simp; done) | (go_simp; with_reducible rfl))
        simp only [List.set_cons_zero, List.set_cons_succ]
        refine take_lit (i := 7) (d := 39) (v := ?_) rfl rfl (by kernel_rfl) (by kernel_rfl) (by kernel_rfl) (fun _ _ _ h => h) (Or.inl ⟨by rfl, ?_⟩) (by assumption) ?_
        rotate_left
        · (intro w hSw; (try dsimp only at hSw); first | (go_simp; done) | (go_simp; with_reducible rfl))
        simp only [List.set_cons_zero, List.set_cons_succ]
        refine wpAnyH_ready (rs := [8]) (by kernel_rfl) (by simp) ?_
        refine AllReadyH.cons rfl (fun K hK => ?_) AllReadyH.nil
        have bg : Hid (Box (w5.alloc (.cells #[.string ⟨#[]⟩, .slice none 0 0] 33)) w5.heap.size [.string ⟨#[]⟩, .slice none 0 0] 33) := Box.new w5 _ _
        have hB8 : Hid (Below w.heap.size w (w5.alloc (.cells #[.string ⟨#[]⟩, .slice none 0 0] 33))) := Below.alloc hB5.out (Below.size hB5.out) _
        have b8 : Hid (Box (w5.alloc (.cells #[.string ⟨#[]⟩, .slice none 0 0] 33)) w.heap.size [.string (strT d), .slice a0 (kidsOf d).length cap0] 33) := Box.alloc b5.out _
        have hg8 : w.heap.size < w5.heap.size := Box.lt b5.out
        go_simp
        refine hK.out _ _ ⟨cell_on ((Below.refl _ _).alloc (Nat.le_refl _) _) hHeld.1, cell_on ((Below.refl _ _).alloc (Nat.le_refl _) _) hHeld.2⟩ (fun hHeld => ?_)
        clear hK K
        refine wpAnyH_ready (rs := [9]) (by kernel_rfl) (by simp) ?_
        refine AllReadyH.cons rfl (fun K hK => ?_) AllReadyH.nil
        have bV : Hid (Box (w5.alloc (.cells #[.string (tgC d path q), .slice ax nx cx] 33)) w5.heap.size [.string (tgC d path q), .slice ax nx cx] 33) := Box.new w5 _ _
        have bAV : Hid (Box (w5.alloc (.cells #[.string (tgC d path q), .slice ax nx cx] 33)) w.heap.size [.string (strT d), .slice a0 (kidsOf d).length cap0] 33) := Box.alloc b5.out _
        have hBV : Hid (Below w.heap.size w (w5.alloc (.cells #[.string (tgC d path q), .slice ax nx cx] 33))) := Below.alloc hB5.out (Below.size hB5.out) _
        go_simp
        refine hK.out _ _ ⟨bAV.out.cell 0 rfl, bAV.out.cell 1 rfl⟩ (fun hHeld => ?_)
        clear hK K
        refine take_lit (i := 10) (d := 12) (v := ?_) rfl rfl (by kernel_rfl) (by kernel_rfl) (by kernel_rfl) (fun _ _ _ h => h) (Or.inl ⟨by rfl, ?_⟩) (by assumption) ?_
        rotate_left
        · (intro w hSw; (try dsimp only at hSw); first | (go_simp; done) | (go_simp; with_reducible rfl))
        simp only [List.set_cons_zero, List.set_cons_succ]
        refine wpAnyH_done (by kernel_rfl) ?_ _
        have cV := bV.out.cell 0 rfl
        generalize (w5.alloc (.cells #[.string (tgC d path q), .slice ax nx cx] 33)) = V at bV bAV hBV cV ⊢
        by_cases he : tgC d path q = tag
        · have hc : Hid (clo (tgC d path) tag (q + 1) = some q) := clo_hit he
          rw [he] at cV
          clear he
          have hpV : Hid (SeqAt 1 IntAt (V.alloc (.cells #[] 2)) lo2 (.slice ap q capp) (path.take q)) := by have := (SeqAt.take hp0.out q hq).below intAt_stays (hBV.out.alloc hBV.out.size (.cells #[] 2)); exact this
          have hlq : Hid ((path.take q).length = q) := by show _ = _; rw [List.length_take]; omega
          go_wp2_with (at_builtin; refine wpList_append_ints rfl _ _ 37 rfl V.heap.size lo2 2 iI Try.underlying37 hiI.out heI.out.1 heI.out.2.1 heI.out.2.2 (.slice (some ⟨V.heap.size, 0, none⟩) 0 0) 0 [] rfl (by simp) (row_start (Nat.le_refl _)) _ (path.take q) rfl hpV.out (by have := hlq.out; omega) (by simp) ?_; intro v w6 hown hgrow hnn)
          have hown' : Hid (w6.ownsRow V.heap.size 2 1 v (0 + (path.take q).length) ([] ++ (path.take q).map fun n => Value.int .i64 n)) := hown
          have hb6 : Hid (Below V.heap.size V w6) := ((Below.refl V.heap.size V).alloc (Nat.le_refl _) _).grown hgrow (by simp) (fun k e => by simp only [Value.ownBlock, Option.some.injEq] at e; omega)
          clear hown hgrow hnn
          go_ret2
          refine ⟨?_, hBV.out.trans (hb6.out.mono hBV.out.size)⟩
          rw [H.out, hup.out, hc.out]
          have ho := hown'.out
          rw [Nat.zero_add, List.nil_append] at ho
          obtain ⟨fs, hs, hlo6⟩ := seqOwn_of_row ho (fun x hx => hIp.out x (List.mem_of_mem_take hx))
          exact ⟨v, fs, rfl, hs, hs.nodup, fun b qb => Nat.le_trans hBV.out.size (hlo6 b qb)⟩
        · have hc : Hid (clo (tgC d path) tag (q + 1) = clo (tgC d path) tag q) := clo_on he
          have h1 := eq_list3 he
          have h2 : ((tgC d path q).toList == tag.toList) = false := by simpa using h1
          clear he
          go_wp2_with fail
          go_roundw
          case rel => exact ⟨q, by omega, rfl, hBV, bAV, by show _ = _; rw [hup.out, hc.out]⟩
          case measure => simp [intOf]
      · have bg : Hid (Box (wr.drew.alloc (.cells #[.string ⟨#[]⟩, .slice none 0 0] 33)) wr.heap.size [.string ⟨#[]⟩, .slice none 0 0] 33) := Box.new wr.drew _ _
        have hB8 : Hid (Below w.heap.size w (wr.drew.alloc (.cells #[.string ⟨#[]⟩, .slice none 0 0] 33))) := Below.alloc (Below.drew hb.out) (Below.size (Below.drew hb.out)) _
        have b8 : Hid (Box (wr.drew.alloc (.cells #[.string ⟨#[]⟩, .slice none 0 0] 33)) w.heap.size [.string (strT d), .slice a0 (kidsOf d).length cap0] 33) := Box.alloc (show Box wr.drew w.heap.size [.string (strT d), .slice a0 (kidsOf d).length cap0] 33 from bx.out) _
        have hg8 : w.heap.size < wr.heap.size := Box.lt (show Box wr.drew w.heap.size [.string (strT d), .slice a0 (kidsOf d).length cap0] 33 from bx.out)
        go_simp
        refine hK.out _ _ ⟨cell_on ((Below.refl _ _).alloc (Nat.le_refl _) _) hHeld.1, cell_on ((Below.refl _ _).alloc (Nat.le_refl _) _) hHeld.2⟩ (fun hHeld => ?_)
        clear hK K
        refine wpAnyH_ready (rs := [4]) (by kernel_rfl) (by simp) ?_
        refine AllReadyH.cons rfl (fun K hK => ?_) AllReadyH.nil
        go_simp
        refine (l9At_any (path := path.take q) (by exact TreeAt.below ht0.out hB8.out) (by exact SeqAt.below intAt_stays (SeqAt.take hp0.out q hq) hB8.out)).mono ?_
        rintro e w5 ⟨hres5, hb5⟩
        obtain ⟨ax, cx, rfl⟩ : ∃ ax cx, e = .returned (.tuple #[.agg #[.string (tgC d path q), .slice ax (kidsOf (endP d (path.take q))).length cx], .bool true]) := by rcases hres5 with ⟨_, mm, ax, cx, e1, _⟩ | ⟨hno, _⟩; (exact ⟨ax, cx, e1⟩); (rw [okP_take hoP'.out q] at hno; cases hno)
        generalize (kidsOf (endP d (path.take q))).length = nx
        have hB5 : Hid (Below w.heap.size w w5) := Below.trans hB8.out (Below.mono hb5 (Below.size hB8.out))
        have b5 : Hid (Box w5 w.heap.size [.string (strT d), .slice a0 (kidsOf d).length cap0] 33) := Box.below b8.out hb5 (Box.lt b8.out)
        have bg5 : Hid (Box w5 wr.heap.size [.string ⟨#[]⟩, .slice none 0 0] 33) := Box.below bg.out hb5 (Box.lt bg.out)
        have bf5 := bg5.out.unfrozen
        have bc5 := bg5.out.cell 0 rfl
        have bd5 := bg5.out.cell 1 rfl
        clear hres5
        refine hK.out _ _ ⟨cell_on hb5 hHeld.1, cell_on hb5 hHeld.2⟩ (fun hHeld => ?_)
        clear hK K
        refine take_lit (i := 5) (d := 32) (v := ?_) rfl rfl (by kernel_rfl) (by kernel_rfl) (by kernel_rfl) (fun _ _ _ h => h) (Or.inl ⟨by rfl, ?_⟩) (by assumption) ?_
        rotate_left
        · (intro w hSw; (try dsimp only at hSw); first | (go_simp; done) | (go_simp; with_reducible rfl))
        simp only [List.set_cons_zero, List.set_cons_succ]
        refine take_lit (i := 6) (d := 38) (v := ?_) rfl rfl (by kernel_rfl) (by kernel_rfl) (by kernel_rfl) (fun _ _ _ h => h) (Or.inl ⟨by rfl, ?_⟩) (by assumption) ?_
        rotate_left
        · (intro w hSw; (try dsimp only at hSw); first | (go_simp; done) | (go_simp; with_reducible rfl))
        simp only [List.set_cons_zero, List.set_cons_succ]
        refine take_lit (i := 7) (d := 39) (v := ?_) rfl rfl (by kernel_rfl) (by kernel_rfl) (by kernel_rfl) (fun _ _ _ h => h) (Or.inl ⟨by rfl, ?_⟩) (by assumption) ?_
        rotate_left
        · (intro w hSw; (try dsimp only at hSw); first | (go_simp; done) | (go_simp; with_reducible rfl))
        simp only [List.set_cons_zero, List.set_cons_succ]
        refine wpAnyH_ready (rs := [9]) (by kernel_rfl) (by simp) ?_
        refine AllReadyH.cons rfl (fun K hK => ?_) AllReadyH.nil
        have cg0 := bg5.out.cell 0 rfl
        have cg1 := bg5.out.cell 1 rfl
        have fg := bg5.out.unfrozen
        have hne : ¬ w.heap.size = wr.heap.size := by omega
        have bV : Hid (Box ((w5.setCell ⟨wr.heap.size, 0, none⟩ (.string (tgC d path q))).setCell ⟨wr.heap.size, 1, none⟩ (.slice ax nx cx)) wr.heap.size [.string (tgC d path q), .slice ax nx cx] 33) := (bg5.out.set (i := 0) _).set (i := 1) _
        have bAV : Hid (Box ((w5.setCell ⟨wr.heap.size, 0, none⟩ (.string (tgC d path q))).setCell ⟨wr.heap.size, 1, none⟩ (.slice ax nx cx)) w.heap.size [.string (strT d), .slice a0 (kidsOf d).length cap0] 33) := Box.other (Box.other b5.out (by omega) _) (by omega) _
        have hBV : Hid (Below w.heap.size w ((w5.setCell ⟨wr.heap.size, 0, none⟩ (.string (tgC d path q))).setCell ⟨wr.heap.size, 1, none⟩ (.slice ax nx cx))) := Below.setCell (Below.setCell hB5.out (p := ⟨wr.heap.size, 0, none⟩) (by show w.heap.size ≤ wr.heap.size; omega) _) (p := ⟨wr.heap.size, 1, none⟩) (by show w.heap.size ≤ wr.heap.size; omega) _
        go_simp
        refine hK.out _ _ ⟨bAV.out.cell 0 rfl, bAV.out.cell 1 rfl⟩ (fun hHeld => ?_)
        clear hK K
        refine take_lit (i := 10) (d := 12) (v := ?_) rfl rfl (by kernel_rfl) (by kernel_rfl) (by kernel_rfl) (fun _ _ _ h => h) (Or.inl ⟨by rfl, ?_⟩) (by assumption) ?_
        rotate_left
        · (intro w hSw; (try dsimp only at hSw); first | (go_simp; done) | (go_simp; with_reducible rfl))
        simp only [List.set_cons_zero, List.set_cons_succ]
        refine wpAnyH_done (by kernel_rfl) ?_ _
        have cV := bV.out.cell 0 rfl
        generalize ((w5.setCell ⟨wr.heap.size, 0, none⟩ (.string (tgC d path q))).setCell ⟨wr.heap.size, 1, none⟩ (.slice ax nx cx)) = V at bV bAV hBV cV ⊢
        by_cases he : tgC d path q = tag
        · have hc : Hid (clo (tgC d path) tag (q + 1) = some q) := clo_hit he
          rw [he] at cV
          clear he
          have hpV : Hid (SeqAt 1 IntAt (V.alloc (.cells #[] 2)) lo2 (.slice ap q capp) (path.take q)) := by have := (SeqAt.take hp0.out q hq).below intAt_stays (hBV.out.alloc hBV.out.size (.cells #[] 2)); exact this
          have hlq : Hid ((path.take q).length = q) := by show _ = _; rw [List.length_take]; omega
          go_wp2_with (at_builtin; refine wpList_append_ints rfl _ _ 37 rfl V.heap.size lo2 2 iI Try.underlying37 hiI.out heI.out.1 heI.out.2.1 heI.out.2.2 (.slice (some ⟨V.heap.size, 0, none⟩) 0 0) 0 [] rfl (by simp) (row_start (Nat.le_refl _)) _ (path.take q) rfl hpV.out (by have := hlq.out; omega) (by simp) ?_; intro v w6 hown hgrow hnn)
          have hown' : Hid (w6.ownsRow V.heap.size 2 1 v (0 + (path.take q).length) ([] ++ (path.take q).map fun n => Value.int .i64 n)) := hown
          have hb6 : Hid (Below V.heap.size V w6) := ((Below.refl V.heap.size V).alloc (Nat.le_refl _) _).grown hgrow (by simp) (fun k e => by simp only [Value.ownBlock, Option.some.injEq] at e; omega)
          clear hown hgrow hnn
          go_ret2
          refine ⟨?_, hBV.out.trans (hb6.out.mono hBV.out.size)⟩
          rw [H.out, hup.out, hc.out]
          have ho := hown'.out
          rw [Nat.zero_add, List.nil_append] at ho
          obtain ⟨fs, hs, hlo6⟩ := seqOwn_of_row ho (fun x hx => hIp.out x (List.mem_of_mem_take hx))
          exact ⟨v, fs, rfl, hs, hs.nodup, fun b qb => Nat.le_trans hBV.out.size (hlo6 b qb)⟩
        · have hc : Hid (clo (tgC d path) tag (q + 1) = clo (tgC d path) tag q) := clo_on he
          have h1 := eq_list3 he
          have h2 : ((tgC d path q).toList == tag.toList) = false := by simpa using h1
          clear he
          go_wp2_with fail
          go_roundw
          case rel => exact ⟨q, by omega, rfl, hBV, bAV, by show _ = _; rw [hup.out, hc.out]⟩
          case measure => simp [intOf]
end Go.Proofs.Ytddhacalnfkopaa
