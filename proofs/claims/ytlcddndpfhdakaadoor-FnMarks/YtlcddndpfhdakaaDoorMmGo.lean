/- FnMarks: walked. -/
import Derived.Test.YtlcddndpfhdakaaDoorRmSpecTop
import Derived.Test.YtlcddndpfhdakaaDoorUmDraws
import Derived.Test.YtlcddndpfhdakaaDoorDrawHurt
namespace Go.Proofs.YtlcddndpfhdakaaDoor
open Go.RowKit Go.Deep
/-- a mark, laid out as data are -/
def canonM : Nat → MarkD → MarkD
  | 0, x => x
  | n + 1, x => MarkD.mk x.vTag x.vText x.vAttrs (x.vKids.map (canonM n))
theorem canonM_tag (n : Nat) (x : MarkD) : (canonM n x).vTag = x.vTag := by
  cases n with
  | zero => rfl
  | succ n => exact MarkD.mk_tag _ _ _ _
theorem canonM_text (n : Nat) (x : MarkD) : (canonM n x).vText = x.vText := by
  cases n with
  | zero => rfl
  | succ n => exact MarkD.mk_text _ _ _ _
theorem canonM_attrs (n : Nat) (x : MarkD) : (canonM n x).vAttrs = x.vAttrs := by
  cases n with
  | zero => rfl
  | succ n => exact MarkD.mk_attrs _ _ _ _
theorem canonM_kids (n : Nat) (x : MarkD) : (canonM (n + 1) x).vKids = x.vKids.map (canonM n) := MarkD.mk_kids _ _ _ _
theorem canonM_isT (n : Nat) (x : MarkD) : isT (canonM n x) = isT x := by unfold isT; rw [canonM_tag]
theorem canonM_self (n : Nat) (x : MarkD) : selfB (canonM (n + 1) x) = selfB x := by
  unfold selfB textB tagB
  simp only [canonM_isT, canonM_tag, canonM_text, canonM_attrs, canonM_kids, List.length_map]
theorem mzF_map {f g : MarkD → Int → Option Int} {m : MarkD → MarkD} (h : ∀ x room, g (m x) room = f x room) (hi : ∀ x, isT (m x) = isT x) : ∀ (ks : List MarkD) (p : Bool) (room size : Int), mzF g p (ks.map m) room size = mzF f p ks room size := by
  intro ks
  induction ks with
  | nil => intro p room size; rfl
  | cons k ks ih =>
    intro p room size
    simp only [List.map_cons, mzF]
    rw [h, hi]
    cases f k (room - size) with
    | none => rfl
    | some q => simp only [ih]
theorem canonM_size : ∀ (n : Nat) (x : MarkD) (room : Int), mzD n (canonM n x) room = mzD n x room := by
  intro n
  induction n with
  | zero => intro x room; rfl
  | succ n ih =>
    intro x room
    unfold mzD
    rw [canonM_self, canonM_kids, mzF_map ih (canonM_isT n)]
theorem catK_map {α : Type} {f g : α → List UInt8} {m : α → α} (h : ∀ x, g (m x) = f x) : ∀ ks : List α, catK g (ks.map m) = catK f ks := by
  intro ks
  induction ks with
  | nil => rfl
  | cons k ks ih => simp only [List.map_cons, catK]; rw [h, ih]
theorem canonM_mt : ∀ (n : Nat) (x : MarkD), mtD n (canonM n x) = mtD n x := by
  intro n
  induction n with
  | zero => intro x; rfl
  | succ n ih =>
    intro x
    simp only [mtD, headM, footM]
    rw [canonM_isT, canonM_text, canonM_tag, canonM_attrs, canonM_kids, catK_map ih]
theorem mzF_kids {f : MarkD → Int → Option Int} : ∀ (ks : List MarkD) (p : Bool) (room size m : Int), mzF f p ks room size = some m → ∀ k ∈ ks, ∃ r q, f k r = some q := by
  intro ks
  induction ks with
  | nil => intro p room size m _ k hk; cases hk
  | cons k ks ih =>
    intro p room size m h k' hk
    unfold mzF at h
    split at h
    · cases h
    · rename_i q hq
      split at h
      · cases h
      · rcases List.mem_cons.1 hk with rfl | hk
        · exact ⟨_, _, hq⟩
        · exact ih _ _ _ _ h k' hk
theorem canonM_of : ∀ (n : Nat) (x : MarkD) (room m : Int), mzD n x room = some m → CanM n (canonM n x) := by
  intro n
  induction n with
  | zero => intro x room m h; simp [mzD] at h
  | succ n ih =>
    intro x room m h
    refine canM_mk fun k hk => ?_
    simp only [List.mem_map] at hk
    obtain ⟨k0, h0, rfl⟩ := hk
    unfold mzD at h
    split at h
    · cases h
    · obtain ⟨r, q, hq⟩ := mzF_kids _ _ _ _ _ h k0 h0
      exact ih k0 r q hq
theorem mzF_up {f g : MarkD → Int → Option Int} (h : ∀ x room m, f x room = some m → g x room = some m) : ∀ (ks : List MarkD) (p : Bool) (room size m : Int), mzF f p ks room size = some m → mzF g p ks room size = some m := by
  intro ks
  induction ks with
  | nil => intro p room size m h; exact h
  | cons k ks ih =>
    intro p room size m h2
    unfold mzF at h2 ⊢
    split at h2
    · cases h2
    · rename_i q hq
      rw [h _ _ _ hq]
      simp only at h2 ⊢
      split at h2
      · cases h2
      · rename_i hp
        rw [if_neg hp]
        exact ih _ _ _ _ h2
theorem mzD_up : ∀ (n : Nat) (x : MarkD) (room m : Int), mzD n x room = some m → mzD (n + 1) x room = some m := by
  intro n
  induction n with
  | zero => intro x room m h; simp [mzD] at h
  | succ n ih =>
    intro x room m h
    rw [mzD] at h ⊢
    split at h
    · cases h
    · rename_i hc
      rw [if_neg hc]
      exact mzF_up ih _ _ _ _ _ h
theorem mzD_mono {n m : Nat} (h : n ≤ m) {x : MarkD} {room q : Int} (hq : mzD n x room = some q) : mzD m x room = some q := by
  induction h with
  | refl => exact hq
  | step _ ih => exact mzD_up _ _ _ _ ih
theorem md_ne {n : Nat} {x : MarkD} {c : Nat} {l r : List UInt8} (h : Md n x c l r) : l ≠ [] := by
  cases n with
  | zero => exact h.elim
  | succ n =>
    rcases h with ⟨_, _, _, _, h, _⟩ | ⟨_, _, _, _, _, _, _, _, _, h, _⟩
    · exact h
    · rw [h]; simp
/-- a right mark's text is not empty -/
theorem mt_ne {n : Nat} {x : MarkD} (h : okM (mzD n x 30) = true) : mtD n x ≠ [] := by
  cases hq : mzD n x 30 with
  | none => rw [hq] at h; cases h
  | some m =>
    obtain ⟨c, _, e2⟩ := md_of n (canonM n x) 30 m (canonM_of n x 30 m hq) (by rw [canonM_size]; exact hq) [] (fun _ d z e => by cases e)
    rw [List.append_nil, canonM_mt] at e2
    exact md_ne e2
theorem mtR_empty {n : Nat} {x : MarkD} : mtR n x = ⟨#[]⟩ ↔ okM (mzD n x 30) = false := by
  constructor
  · intro e
    cases h : okM (mzD n x 30) with
    | false => rfl
    | true =>
      rw [mtR_yes h] at e
      have e2 : (mtD n x).toArray = #[] := by injection e
      have e3 := congrArg Array.toList e2
      exact absurd e3 (mt_ne h)
  · exact mtR_no
/-- what is read has that text -/
theorem ReadsM.text {s : ByteArray} {x : MarkD} (h : ReadsM s x true) : mtR 31 x = s := by
  rcases h with ⟨_, _, _, h3, h4, _⟩ | ⟨h, _⟩
  · rw [mtR_yes h4]
    exact ba_of (by rw [← h3])
  · cases h
/-- of a mark's text there is read just what is right and not too long -/
theorem readsM_same {n : Nat} {x u : MarkD} {b : Bool} (hn : n ≤ 31) (h : ReadsM (mtR n x) u b) : b = (okM (mzD n x 30) && decide ((mtR n x).size ≤ 5000)) := by
  cases hq : mzD n x 30 with
  | none =>
    have e : mtR n x = ⟨#[]⟩ := mtR_no (by rw [hq]; rfl)
    rcases h with ⟨_, _, _, h3, h4, _⟩ | ⟨h, _⟩
    · rw [e] at h3
      exact absurd h3.symm (mt_ne h4)
    · rw [h]; rfl
  | some m =>
    have hok : okM (mzD n x 30) = true := by rw [hq]; rfl
    rcases h with ⟨h, h1, _⟩ | ⟨h, _, h2⟩
    · rw [h]; simp [okM, h1]
    · rw [h]
      by_cases hs : (mtR n x).size ≤ 5000
      · have hc := canonM_of n x 30 m hq
        refine (h2 hs (canonM n x) (CanM.mono hn hc) ?_ ?_).elim
        · rw [mzD_mono hn (show mzD n (canonM n x) 30 = some m by rw [canonM_size]; exact hq)]; rfl
        · rw [mtD_mono hn hc, canonM_mt, mtR_yes hok]
      · simp [hs]
theorem mtR_small {n : Nat} {x : MarkD} : (mtR n x).size ≤ 12000 := by
  cases hq : mzD n x 30 with
  | none => rw [mtR_no (by rw [hq]; rfl)]; decide
  | some m =>
    rw [mtR_yes (by rw [hq]; rfl)]
    have h1 := mzD_mt _ _ _ _ hq
    have h2 := mzD_range _ _ _ _ hq
    show (mtD n x).toArray.size ≤ _
    rw [List.size_toArray]
    omega
theorem mark_form {n : Nat} {w : World} {lo : Nat} {cs : List Value} {x : MarkD} (h : MarkAt n w lo cs x) : ∃ (t1 t2 : ByteArray) (a1 : Option Addr) (n1 c1 : Nat) (a2 : Option Addr) (n2 c2 : Nat), cs = [.string t1, .string t2, .slice a1 n1 c1, .slice a2 n2 c2] := by
  obtain ⟨q2, q3, e, s2, s3, _⟩ := MarkAt.opened h
  obtain ⟨x1, x2, x3⟩ := s2.form
  obtain ⟨y1, y2, y3⟩ := s3.form
  exact ⟨_, _, x1, _, x2, y1, _, y2, by rw [e, x3, y3]⟩
set_option maxHeartbeats 1000000 in
theorem drawReadMark_any {w : World} {a : Option Addr} {n cap : Nat} (h : CodeAt w a n) :
    Calls Tryd.prog 13 #[.slice a n cap] w fun e w' => (∃ s : ByteArray, e = .returned (.string s) ∧ s.size ≤ 1048576) ∧ Below w.heap.size w w' := by
  have h' : Hid (CodeAt w a n) := h
  clear h
  go_enter Tryd.func13, Tryd.ntmps13
  go_wp2_with fail
  refine (open_any h'.out).mono ?_
  rintro e w1 ⟨g, rfl, hg, hr1, hb1⟩
  have hr1' : Hid (RdAt w1 g a n cap) := hr1
  have hB1 : Hid (Below w.heap.size w w1) := hb1
  have hlt1 := hr1.lt
  clear hr1 hb1
  go_wp2_with fail
  refine (drM_all 3 (by omega) (by omega) w1 g a n cap 2 hr1'.out (by omega)).mono ?_
  rintro e w2 ⟨cs, x, fs, rfl, hok, hnd, hlo, hr2, hg2⟩
  have hB2 : Hid (Below w.heap.size w w2) := below_grown hB1.out (by omega) hg2
  have hr2' : Hid (RdAt w2 g a n cap) := hr2
  have ht' : Hid (MarkAt 3 w2 0 cs x) := MarkOwn_at (lo := 0) 3 w2 cs x fs hok (fun _ _ => Nat.zero_le _)
  clear hr2 hg2 hok hnd hlo
  go_wp2_with fail
  refine (specMarkText_any ht'.out).mono ?_
  rintro e w3 ⟨rfl, hb3⟩
  have hB3 : Hid (Below w.heap.size w w3) := hB2.out.trans (hb3.mono hB2.out.size)
  have hr3 : Hid (RdAt w3 g a n cap) := hr2'.out.below hb3
  have hsz : Hid ((mtR 3 x).size ≤ 12000) := mtR_small
  clear hb3
  go_wp2_with fail
  refine (once_any hr3.out 3 (by omega) (by omega)).mono ?_
  rintro e w4 ⟨v, rfl, hr4, hg4⟩
  have hB4 : Hid (Below w.heap.size w w4) := below_grown hB3.out hg hg4
  have hr4' : Hid (RdAt w4 g a n cap) := hr4
  clear hr4 hg4
  cases v
  · go_wp2_with fail
    go_ret
    exact ⟨⟨_, rfl, by have := hsz.out; omega⟩, hB4.out⟩
  · go_wp2_with fail
    refine (hurt_any hr4'.out (mtR 3 x) (by have := hsz.out; omega)).mono ?_
    rintro e w5 ⟨t, rfl, ht, _, hg5⟩
    have hB5 : Hid (Below w.heap.size w w5) := below_grown hB4.out hg hg5
    have htz : Hid (t.size ≤ 1048576) := by show _ ≤ _; have := hsz.out; omega
    clear ht hg5
    go_wp2_with fail
    go_ret
    exact ⟨⟨t, rfl, htz.out⟩, hB5.out⟩
set_option maxHeartbeats 1000000 in
theorem big_any {a : Option Addr} {n cap : Nat} (w : World) : Calls Tryd.prog 6 #[.slice a n cap] w fun e w' => e = .returned (.bool (decide ((1048576 : Int) < (n : Int)))) ∧ w' = w := by
  go_enter Tryd.func6, Tryd.ntmps6
  go_wp2_with fail
  go_ret
  exact ⟨rfl, rfl⟩
set_option maxRecDepth 100000 in
set_option maxHeartbeats 8000000 in
theorem fnMarks.walk {a : Option Addr} {n cap : Nat} (w : World) (_ : n ≤ maxLen) (hcode : n ≤ 1048576 → CodeAt w a n) (hsg0 : Signs w) :
    Calls Tryd.prog 3 #[.slice a n cap] w fun e w' => e = .returned (.bool true) ∧ Below w.heap.size w w' := by
  have hsg : Hid (Signs w) := hsg0
  clear hsg0
  by_cases hbig : (1048576 : Int) < (n : Int)
  · go_enter Tryd.func3, Tryd.ntmps3
    go_wp2_with (go_at_call 6; refine (big_any _).mono ?_; rintro e w' ⟨rfl, rfl⟩; rw [decide_eq_true hbig])
    go_ret
    exact ⟨rfl, Below.refl _ _⟩
  have h' : Hid (CodeAt w a n) := hcode (by omega)
  clear hcode
  go_enter Tryd.func3, Tryd.ntmps3
  go_wp2_with (go_at_call 6; refine (big_any _).mono ?_; rintro e w' ⟨rfl, e9⟩; have e10 := e9.symm; clear e9; subst e10; rw [decide_eq_false hbig])
  refine (drawMarkText_any h'.out).mono ?_
  rintro e w1 ⟨⟨csM, x, rfl, ht1⟩, hb1⟩
  obtain ⟨mt, mx, ma, ml, mc, na, nl, nc, rfl⟩ : ∃ (t1 t2 : ByteArray) (a1 : Option Addr) (n1 c1 : Nat) (a2 : Option Addr) (n2 c2 : Nat), csM = [.string t1, .string t2, .slice a1 n1 c1, .slice a2 n2 c2] := mark_form ht1
  have hbA : Below w1.heap.size w1 (w1.alloc (.cells #[.string mt, .string mx, .slice ma ml mc, .slice na nl nc] 27)) := (Below.refl _ _).alloc (Nat.le_refl _) _
  have htT : Hid (MarkAt 4 (w1.alloc (.cells #[.string mt, .string mx, .slice ma ml mc, .slice na nl nc] 27)) 0 [.string mt, .string mx, .slice ma ml mc, .slice na nl nc] x) := MarkAt.below (MarkAt_stays 4 _ _ _ _ _ _ (.lower (Nat.zero_le _)) ht1) hbA
  have hbT : Hid (Box (w1.alloc (.cells #[.string mt, .string mx, .slice ma ml mc, .slice na nl nc] 27)) w1.heap.size [.string mt, .string mx, .slice ma ml mc, .slice na nl nc] 27) := Box.new w1 _ _
  have hBel : Hid (Below w.heap.size w (w1.alloc (.cells #[.string mt, .string mx, .slice ma ml mc, .slice na nl nc] 27))) := hb1.trans (hbA.mono hb1.size)
  have hCd : Hid (CodeAt (w1.alloc (.cells #[.string mt, .string mx, .slice ma ml mc, .slice na nl nc] 27)) a n) := (h'.out.below hb1).below hbA
  replace hsg : Hid (Signs (w1.alloc (.cells #[.string mt, .string mx, .slice ma ml mc, .slice na nl nc] 27))) := Signs.below hsg.out hBel.out hsg.out.lt
  clear ht1 hb1 hbA h' hbig
  go_wp2_with fail
  generalize w1.alloc (.cells #[.string mt, .string mx, .slice ma ml mc, .slice na nl nc] 27) = w2 at *
  generalize w1.heap.size = BT at *
  refine (implMarkText_any htT.out hsg.out).mono ?_
  rintro e w3 ⟨rfl, hb3⟩
  replace htT : Hid (MarkAt 4 w3 0 [.string mt, .string mx, .slice ma ml mc, .slice na nl nc] x) := MarkAt.below htT.out hb3
  replace hbT : Hid (Box w3 BT [.string mt, .string mx, .slice ma ml mc, .slice na nl nc] 27) := hbT.out.below hb3 hbT.out.lt
  replace hBel : Hid (Below w.heap.size w w3) := hBel.out.trans (hb3.mono hBel.out.size)
  replace hCd : Hid (CodeAt w3 a n) := hCd.out.below hb3
  replace hsg : Hid (Signs w3) := Signs.below hsg.out hb3 hsg.out.lt
  clear hb3
  go_wp2_with fail
  refine (implReadMark_any (s := mtR 4 x) (by have := mtR_small (n := 4) (x := x); omega) hsg.out).mono ?_
  rintro e w4 ⟨csU, u, fU, bu, rfl, ownU, _, _, hRU0, hb4⟩
  have hRU : Hid (ReadsM (mtR 4 x) u bu) := hRU0
  have hau := MarkOwn_at (lo := 0) _ _ _ _ _ ownU (fun _ _ => Nat.zero_le _)
  obtain ⟨ut, ux, ua, ul, uc, va, vl, vc, rfl⟩ : ∃ (t1 t2 : ByteArray) (a1 : Option Addr) (n1 c1 : Nat) (a2 : Option Addr) (n2 c2 : Nat), csU = [.string t1, .string t2, .slice a1 n1 c1, .slice a2 n2 c2] := mark_form hau
  have hbA : Below w4.heap.size w4 (w4.alloc (.cells #[.string ut, .string ux, .slice ua ul uc, .slice va vl vc] 27)) := (Below.refl _ _).alloc (Nat.le_refl _) _
  have hb5 : Below w3.heap.size w3 (w4.alloc (.cells #[.string ut, .string ux, .slice ua ul uc, .slice va vl vc] 27)) := hb4.trans (hbA.mono hb4.size)
  have htU : Hid (MarkAt 31 (w4.alloc (.cells #[.string ut, .string ux, .slice ua ul uc, .slice va vl vc] 27)) 0 [.string ut, .string ux, .slice ua ul uc, .slice va vl vc] u) := MarkAt.below hau hbA
  have hbU : Hid (Box (w4.alloc (.cells #[.string ut, .string ux, .slice ua ul uc, .slice va vl vc] 27)) w4.heap.size [.string ut, .string ux, .slice ua ul uc, .slice va vl vc] 27) := Box.new w4 _ _
  replace htT : Hid (MarkAt 4 (w4.alloc (.cells #[.string ut, .string ux, .slice ua ul uc, .slice va vl vc] 27)) 0 [.string mt, .string mx, .slice ma ml mc, .slice na nl nc] x) := MarkAt.below htT.out hb5
  replace hbT : Hid (Box (w4.alloc (.cells #[.string ut, .string ux, .slice ua ul uc, .slice va vl vc] 27)) BT [.string mt, .string mx, .slice ma ml mc, .slice na nl nc] 27) := hbT.out.below hb5 hbT.out.lt
  replace hBel : Hid (Below w.heap.size w (w4.alloc (.cells #[.string ut, .string ux, .slice ua ul uc, .slice va vl vc] 27))) := hBel.out.trans (hb5.mono hBel.out.size)
  replace hCd : Hid (CodeAt (w4.alloc (.cells #[.string ut, .string ux, .slice ua ul uc, .slice va vl vc] 27)) a n) := hCd.out.below hb5
  replace hsg : Hid (Signs (w4.alloc (.cells #[.string ut, .string ux, .slice ua ul uc, .slice va vl vc] 27))) := Signs.below hsg.out hb5 hsg.out.lt
  clear hb4 hbA hb5 ownU hRU0 hau
  have hbu : Hid (bu = (okM (mzD 4 x 30) && decide ((mtR 4 x).size ≤ 5000))) := readsM_same (by omega) hRU.out
  have hTU0 : Hid (bu = true → mtR 31 u = mtR 4 x) := fun e => by subst e; exact hRU.out.text
  clear hRU
  have hTU : Hid (mtR 31 u = mtR 31 u) := rfl
  clear hTU
  cases hok : okM (mzD 4 x 30)
  · have hok' : Hid (okM (mzD 4 x 30) = false) := hok
    have hS0 : Hid (mtR 4 x = ⟨#[]⟩) := mtR_no hok
    obtain rfl : bu = false := by rw [hbu.out, hok]; rfl
    clear hbu hok hTU0
    rw [hS0.out]
    go_wp2_with fail
    generalize w4.alloc (.cells #[.string ut, .string ux, .slice ua ul uc, .slice va vl vc] 27) = w9 at *
    generalize w4.heap.size = BU at *
    replace htT : Hid (MarkAt 4 w9.drew 0 [.string mt, .string mx, .slice ma ml mc, .slice na nl nc] x) := MarkAt.below htT.out (Below.drew (Below.refl _ _))
    replace htU : Hid (MarkAt 31 w9.drew 0 [.string ut, .string ux, .slice ua ul uc, .slice va vl vc] u) := MarkAt.below htU.out (Below.drew (Below.refl _ _))
    replace hBel : Hid (Below w.heap.size w w9.drew) := hBel.out.drew
    replace hbT : Hid (Box w9.drew BT [.string mt, .string mx, .slice ma ml mc, .slice na nl nc] 27) := hbT.out
    replace hbU : Hid (Box w9.drew BU [.string ut, .string ux, .slice ua ul uc, .slice va vl vc] 27) := hbU.out
    replace hCd : Hid (CodeAt w9.drew a n) := hCd.out.below (Below.drew (Below.refl _ _))
    replace hsg : Hid (Signs w9.drew) := hsg.out
    refine wp_region_held_drew (S := fun w' => w'.cell? ⟨BT, 0, none⟩ = some (.string mt) ∧ w'.cell? ⟨BT, 1, none⟩ = some (.string mx) ∧ w'.cell? ⟨BT, 2, none⟩ = some (.slice ma ml mc) ∧ w'.cell? ⟨BT, 3, none⟩ = some (.slice na nl nc) ∧ w'.cell? ⟨BU, 0, none⟩ = some (.string ut) ∧ w'.cell? ⟨BU, 1, none⟩ = some (.string ux) ∧ w'.cell? ⟨BU, 2, none⟩ = some (.slice ua ul uc) ∧ w'.cell? ⟨BU, 3, none⟩ = some (.slice va vl vc)) (by kernel_rfl) ⟨hbT.out.cell 0 rfl, hbT.out.cell 1 rfl, hbT.out.cell 2 rfl, hbT.out.cell 3 rfl, hbU.out.cell 0 rfl, hbU.out.cell 1 rfl, hbU.out.cell 2 rfl, hbU.out.cell 3 rfl⟩ (fun hHeld => ?_)
    refine tq (i := 0) (d := 23) ?_
    simp only [sz, ss]
    refine tq (i := 1) (d := 24) ?_
    simp only [sz, ss]
    refine wpAnyH_ready (rs := [2]) (by kernel_rfl) (by simp) ?_
    refine AllReadyH.cons rfl (fun K hK => ?_) AllReadyH.nil
    go_simp
    refine (specMarkText_any (by exact htT.out)).mono ?_
    rintro e w1 ⟨rfl, hb1⟩
    replace htT : Hid (MarkAt 4 w1 0 [.string mt, .string mx, .slice ma ml mc, .slice na nl nc] x) := MarkAt.below htT.out hb1
    replace htU : Hid (MarkAt 31 w1 0 [.string ut, .string ux, .slice ua ul uc, .slice va vl vc] u) := MarkAt.below htU.out hb1
    replace hBel : Hid (Below w.heap.size w w1) := hBel.out.trans (hb1.mono hBel.out.size)
    replace hbT : Hid (Box w1 BT [.string mt, .string mx, .slice ma ml mc, .slice na nl nc] 27) := hbT.out.below hb1 hbT.out.lt
    replace hbU : Hid (Box w1 BU [.string ut, .string ux, .slice ua ul uc, .slice va vl vc] 27) := hbU.out.below hb1 hbU.out.lt
    replace hCd : Hid (CodeAt w1 a n) := hCd.out.below hb1
    replace hsg : Hid (Signs w1) := Signs.below hsg.out hb1 hsg.out.lt
    rw [hS0.out]
    refine hK.out _ _ ⟨cell_on hb1 hHeld.1, cell_on hb1 hHeld.2.1, cell_on hb1 hHeld.2.2.1, cell_on hb1 hHeld.2.2.2.1, cell_on hb1 hHeld.2.2.2.2.1, cell_on hb1 hHeld.2.2.2.2.2.1, cell_on hb1 hHeld.2.2.2.2.2.2.1, cell_on hb1 hHeld.2.2.2.2.2.2.2⟩ (fun hHeld => ?_)
    clear hK K
    refine tq (i := 3) (d := 26) ?_
    simp only [sz, ss]
    refine tq (i := 4) (d := 27) ?_
    simp only [sz, ss]
    refine tq (i := 5) (d := 28) ?_
    simp only [sz, ss]
    refine tq (i := 7) (d := 30) ?_
    simp only [sz, ss]
    refine wpAnyH_ready (rs := [6]) (by kernel_rfl) (by simp) ?_
    refine AllReadyH.cons rfl (fun K hK => ?_) AllReadyH.nil
    go_simp
    refine (implMarkOk_any (by exact htT.out)).mono ?_
    rintro e w1 ⟨rfl, hb1⟩
    replace htT : Hid (MarkAt 4 w1 0 [.string mt, .string mx, .slice ma ml mc, .slice na nl nc] x) := MarkAt.below htT.out hb1
    replace htU : Hid (MarkAt 31 w1 0 [.string ut, .string ux, .slice ua ul uc, .slice va vl vc] u) := MarkAt.below htU.out hb1
    replace hBel : Hid (Below w.heap.size w w1) := hBel.out.trans (hb1.mono hBel.out.size)
    replace hbT : Hid (Box w1 BT [.string mt, .string mx, .slice ma ml mc, .slice na nl nc] 27) := hbT.out.below hb1 hbT.out.lt
    replace hbU : Hid (Box w1 BU [.string ut, .string ux, .slice ua ul uc, .slice va vl vc] 27) := hbU.out.below hb1 hbU.out.lt
    replace hCd : Hid (CodeAt w1 a n) := hCd.out.below hb1
    replace hsg : Hid (Signs w1) := Signs.below hsg.out hb1 hsg.out.lt
    rw [hok'.out]
    refine hK.out _ _ ⟨cell_on hb1 hHeld.1, cell_on hb1 hHeld.2.1, cell_on hb1 hHeld.2.2.1, cell_on hb1 hHeld.2.2.2.1, cell_on hb1 hHeld.2.2.2.2.1, cell_on hb1 hHeld.2.2.2.2.2.1, cell_on hb1 hHeld.2.2.2.2.2.2.1, cell_on hb1 hHeld.2.2.2.2.2.2.2⟩ (fun hHeld => ?_)
    clear hK K
    refine wpAnyH_ready (rs := [8]) (by kernel_rfl) (by simp) ?_
    refine AllReadyH.cons rfl (fun K hK => ?_) AllReadyH.nil
    go_simp
    refine (specMarkOk_any (by exact htT.out)).mono ?_
    rintro e w1 ⟨rfl, hb1⟩
    replace htT : Hid (MarkAt 4 w1 0 [.string mt, .string mx, .slice ma ml mc, .slice na nl nc] x) := MarkAt.below htT.out hb1
    replace htU : Hid (MarkAt 31 w1 0 [.string ut, .string ux, .slice ua ul uc, .slice va vl vc] u) := MarkAt.below htU.out hb1
    replace hBel : Hid (Below w.heap.size w w1) := hBel.out.trans (hb1.mono hBel.out.size)
    replace hbT : Hid (Box w1 BT [.string mt, .string mx, .slice ma ml mc, .slice na nl nc] 27) := hbT.out.below hb1 hbT.out.lt
    replace hbU : Hid (Box w1 BU [.string ut, .string ux, .slice ua ul uc, .slice va vl vc] 27) := hbU.out.below hb1 hbU.out.lt
    replace hCd : Hid (CodeAt w1 a n) := hCd.out.below hb1
    replace hsg : Hid (Signs w1) := Signs.below hsg.out hb1 hsg.out.lt
    rw [hok'.out]
    refine hK.out _ _ ⟨cell_on hb1 hHeld.1, cell_on hb1 hHeld.2.1, cell_on hb1 hHeld.2.2.1, cell_on hb1 hHeld.2.2.2.1, cell_on hb1 hHeld.2.2.2.2.1, cell_on hb1 hHeld.2.2.2.2.2.1, cell_on hb1 hHeld.2.2.2.2.2.2.1, cell_on hb1 hHeld.2.2.2.2.2.2.2⟩ (fun hHeld => ?_)
    clear hK K
    refine tq (i := 9) (d := 32) ?_
    simp only [sz, ss]
    refine tq (i := 10) (d := 33) ?_
    simp only [sz, ss]
    refine tq (i := 11) (d := 34) ?_
    simp only [sz, ss]
    refine tq (i := 12) (d := 35) ?_
    simp only [sz, ss]
    refine tq (i := 13) (d := 36) ?_
    simp only [sz, ss]
    refine tq (i := 14) (d := 37) ?_
    simp only [sz, ss]
    refine tq (i := 15) (d := 38) ?_
    simp only [sz, ss]
    refine tn (i := 16) (d := 39) ?_
    simp only [sz, ss]
    refine tn (i := 17) (d := 40) ?_
    simp only [sz, ss]
    refine tn (i := 18) (d := 41) ?_
    simp only [sz, ss]
    refine tq (i := 19) (d := 42) ?_
    simp only [sz, ss]
    refine tq (i := 20) (d := 43) ?_
    simp only [sz, ss]
    refine tq (i := 21) (d := 44) ?_
    simp only [sz, ss]
    refine tq (i := 22) (d := 45) ?_
    simp only [sz, ss]
    refine tq (i := 23) (d := 46) ?_
    simp only [sz, ss]
    refine tq (i := 24) (d := 47) ?_
    simp only [sz, ss]
    refine tn (i := 25) (d := 48) ?_
    simp only [sz, ss]
    refine tn (i := 26) (d := 49) ?_
    simp only [sz, ss]
    refine tn (i := 27) (d := 50) ?_
    simp only [sz, ss]
    refine tn (i := 28) (d := 51) ?_
    simp only [sz, ss]
    refine tq (i := 29) (d := 52) ?_
    simp only [sz, ss]
    refine tq (i := 30) (d := 53) ?_
    simp only [sz, ss]
    refine wpAnyH_done (by kernel_rfl) ?_ _
    clear htT htU hbT hbU
    go_wp2_with fail
    refine (drawReadMark_any hCd.out).mono ?_
    rintro e w6 ⟨⟨sx, rfl, hsx⟩, hb6⟩
    have hsx' : Hid (sx.size ≤ 1048576) := hsx
    replace hBel : Hid (Below w.heap.size w w6) := hBel.out.trans (hb6.mono hBel.out.size)
    replace hsg : Hid (Signs w6) := Signs.below hsg.out hb6 hsg.out.lt
    clear hb6 hCd hsx
    go_wp2_with fail
    refine (implReadMark_any hsx'.out hsg.out).mono ?_
    rintro e w7 ⟨csV, vv, fV, bv, rfl, ownV, _, _, hRV0, hb7⟩
    have hRV : Hid (ReadsM sx vv bv) := hRV0
    have hav := MarkOwn_at (lo := 0) _ _ _ _ _ ownV (fun _ _ => Nat.zero_le _)
    obtain ⟨tv, xv, av, nv, cv, dv, mv, ev, rfl⟩ : ∃ (t1 t2 : ByteArray) (a1 : Option Addr) (n1 c1 : Nat) (a2 : Option Addr) (n2 c2 : Nat), csV = [.string t1, .string t2, .slice a1 n1 c1, .slice a2 n2 c2] := mark_form hav
    have hbA : Below w7.heap.size w7 (w7.alloc (.cells #[.string tv, .string xv, .slice av nv cv, .slice dv mv ev] 27)) := (Below.refl _ _).alloc (Nat.le_refl _) _
    have htV : Hid (MarkAt 31 (w7.alloc (.cells #[.string tv, .string xv, .slice av nv cv, .slice dv mv ev] 27)) 0 [.string tv, .string xv, .slice av nv cv, .slice dv mv ev] vv) := MarkAt.below hav hbA
    have hbV : Hid (Box (w7.alloc (.cells #[.string tv, .string xv, .slice av nv cv, .slice dv mv ev] 27)) w7.heap.size [.string tv, .string xv, .slice av nv cv, .slice dv mv ev] 27) := Box.new w7 _ _
    replace hsg : Hid (Signs (w7.alloc (.cells #[.string tv, .string xv, .slice av nv cv, .slice dv mv ev] 27))) := Signs.below hsg.out (hb7.trans (hbA.mono hb7.size)) hsg.out.lt
    replace hBel : Hid (Below w.heap.size w (w7.alloc (.cells #[.string tv, .string xv, .slice av nv cv, .slice dv mv ev] 27))) := hBel.out.trans ((hb7.trans (hbA.mono hb7.size)).mono hBel.out.size)
    clear hb7 hbA ownV hRV0 hav
    go_wp2_with fail
    refine (specReadMark_any hsx'.out).mono ?_
    rintro e w8 ⟨csS, ss, fS, bs, rfl, ownS, _, _, hRS0, hb8⟩
    obtain ⟨_, e2⟩ := hRS0.one hRV.out
    subst e2
    have has := MarkOwn_at (lo := 0) _ _ _ _ _ ownS (fun _ _ => Nat.zero_le _)
    obtain ⟨ts, xs0, as0, ns, cs0, ds0, ms, es, rfl⟩ : ∃ (t1 t2 : ByteArray) (a1 : Option Addr) (n1 c1 : Nat) (a2 : Option Addr) (n2 c2 : Nat), csS = [.string t1, .string t2, .slice a1 n1 c1, .slice a2 n2 c2] := mark_form has
    have hb8a : Below (w7.alloc (.cells #[.string tv, .string xv, .slice av nv cv, .slice dv mv ev] 27)).heap.size (w7.alloc (.cells #[.string tv, .string xv, .slice av nv cv, .slice dv mv ev] 27)) (w8.alloc (.cells #[.string ts, .string xs0, .slice as0 ns cs0, .slice ds0 ms es] 27)) := hb8.alloc hb8.size _
    replace hBel : Hid (Below w.heap.size w (w8.alloc (.cells #[.string ts, .string xs0, .slice as0 ns cs0, .slice ds0 ms es] 27))) := hBel.out.trans (hb8a.mono hBel.out.size)
    replace hsg : Hid (Signs (w8.alloc (.cells #[.string ts, .string xs0, .slice as0 ns cs0, .slice ds0 ms es] 27))) := Signs.below hsg.out hb8a hsg.out.lt
    replace htV : Hid (MarkAt 31 (w8.alloc (.cells #[.string ts, .string xs0, .slice as0 ns cs0, .slice ds0 ms es] 27)) 0 [.string tv, .string xv, .slice av nv cv, .slice dv mv ev] vv) := MarkAt.below htV.out hb8a
    replace hbV : Hid (Box (w8.alloc (.cells #[.string ts, .string xs0, .slice as0 ns cs0, .slice ds0 ms es] 27)) w7.heap.size [.string tv, .string xv, .slice av nv cv, .slice dv mv ev] 27) := hbV.out.below hb8a hbV.out.lt
    clear hb8a hb8 ownS hRS0 has
    have v0 := hbV.out.cell 0 rfl
    have v1 := hbV.out.cell 1 rfl
    have v2 := hbV.out.cell 2 rfl
    have v3 := hbV.out.cell 3 rfl
    cases bs
    · go_wp2_with fail
      go_ret
      exact ⟨rfl, hBel.out⟩
    · have hTV : Hid (mtR 31 vv = sx) := hRV.out.text
      go_wp2_with fail
      refine (implMarkText_any htV.out hsg.out).mono ?_
      rintro e w10 ⟨rfl, hb10⟩
      rw [hTV.out]
      replace hBel : Hid (Below w.heap.size w w10) := hBel.out.trans (hb10.mono hBel.out.size)
      clear hb10
      go_wp2_with fail
      go_ret
      exact ⟨rfl, hBel.out⟩
  · have hok' : Hid (okM (mzD 4 x 30) = true) := hok
    have hne : ¬ (mtR 4 x).size = 0 := fun e => by have e1 := mtR_empty.1 (em_eq e); rw [hok] at e1; cases e1
    rw [hok] at hbu
    generalize hs : mtR 4 x = s at *
    have hS0 : Hid (mtR 4 x = s) := hs
    have hq0 : s.toList.isEmpty = false := by have e1 := em_list hne; cases e2 : s.toList with | nil => exact absurd e2 e1 | cons _ _ => rfl
    clear hs hok hne
    by_cases hf : (s.size : Int) ≤ 5000
    · obtain rfl : bu = true := by rw [hbu.out]; simp; omega
      have hTU : Hid (mtR 31 u = s) := hTU0.out rfl
      clear hbu hTU0
      go_wp2_with fail
      generalize w4.alloc (.cells #[.string ut, .string ux, .slice ua ul uc, .slice va vl vc] 27) = w9 at *
      generalize w4.heap.size = BU at *
      replace htT : Hid (MarkAt 4 w9.drew 0 [.string mt, .string mx, .slice ma ml mc, .slice na nl nc] x) := MarkAt.below htT.out (Below.drew (Below.refl _ _))
      replace htU : Hid (MarkAt 31 w9.drew 0 [.string ut, .string ux, .slice ua ul uc, .slice va vl vc] u) := MarkAt.below htU.out (Below.drew (Below.refl _ _))
      replace hBel : Hid (Below w.heap.size w w9.drew) := hBel.out.drew
      replace hbT : Hid (Box w9.drew BT [.string mt, .string mx, .slice ma ml mc, .slice na nl nc] 27) := hbT.out
      replace hbU : Hid (Box w9.drew BU [.string ut, .string ux, .slice ua ul uc, .slice va vl vc] 27) := hbU.out
      replace hCd : Hid (CodeAt w9.drew a n) := hCd.out.below (Below.drew (Below.refl _ _))
      replace hsg : Hid (Signs w9.drew) := hsg.out
      refine wp_region_held_drew (S := fun w' => w'.cell? ⟨BT, 0, none⟩ = some (.string mt) ∧ w'.cell? ⟨BT, 1, none⟩ = some (.string mx) ∧ w'.cell? ⟨BT, 2, none⟩ = some (.slice ma ml mc) ∧ w'.cell? ⟨BT, 3, none⟩ = some (.slice na nl nc) ∧ w'.cell? ⟨BU, 0, none⟩ = some (.string ut) ∧ w'.cell? ⟨BU, 1, none⟩ = some (.string ux) ∧ w'.cell? ⟨BU, 2, none⟩ = some (.slice ua ul uc) ∧ w'.cell? ⟨BU, 3, none⟩ = some (.slice va vl vc)) (by kernel_rfl) ⟨hbT.out.cell 0 rfl, hbT.out.cell 1 rfl, hbT.out.cell 2 rfl, hbT.out.cell 3 rfl, hbU.out.cell 0 rfl, hbU.out.cell 1 rfl, hbU.out.cell 2 rfl, hbU.out.cell 3 rfl⟩ (fun hHeld => ?_)
      refine tq (i := 0) (d := 23) ?_
      simp only [sz, ss]
      refine tq (i := 1) (d := 24) ?_
      simp only [sz, ss]
      refine wpAnyH_ready (rs := [2]) (by kernel_rfl) (by simp) ?_
      refine AllReadyH.cons rfl (fun K hK => ?_) AllReadyH.nil
      go_simp
      refine (specMarkText_any (by exact htT.out)).mono ?_
      rintro e w1 ⟨rfl, hb1⟩
      replace htT : Hid (MarkAt 4 w1 0 [.string mt, .string mx, .slice ma ml mc, .slice na nl nc] x) := MarkAt.below htT.out hb1
      replace htU : Hid (MarkAt 31 w1 0 [.string ut, .string ux, .slice ua ul uc, .slice va vl vc] u) := MarkAt.below htU.out hb1
      replace hBel : Hid (Below w.heap.size w w1) := hBel.out.trans (hb1.mono hBel.out.size)
      replace hbT : Hid (Box w1 BT [.string mt, .string mx, .slice ma ml mc, .slice na nl nc] 27) := hbT.out.below hb1 hbT.out.lt
      replace hbU : Hid (Box w1 BU [.string ut, .string ux, .slice ua ul uc, .slice va vl vc] 27) := hbU.out.below hb1 hbU.out.lt
      replace hCd : Hid (CodeAt w1 a n) := hCd.out.below hb1
      replace hsg : Hid (Signs w1) := Signs.below hsg.out hb1 hsg.out.lt
      rw [hS0.out]
      refine hK.out _ _ ⟨cell_on hb1 hHeld.1, cell_on hb1 hHeld.2.1, cell_on hb1 hHeld.2.2.1, cell_on hb1 hHeld.2.2.2.1, cell_on hb1 hHeld.2.2.2.2.1, cell_on hb1 hHeld.2.2.2.2.2.1, cell_on hb1 hHeld.2.2.2.2.2.2.1, cell_on hb1 hHeld.2.2.2.2.2.2.2⟩ (fun hHeld => ?_)
      clear hK K
      refine tq (i := 3) (d := 26) ?_
      simp only [sz, ss]
      refine tq (i := 4) (d := 27) ?_
      simp only [sz, ss]
      refine tq (i := 5) (d := 28) ?_
      simp only [sz, ss]
      refine tq (i := 7) (d := 30) ?_
      simp only [sz, ss]
      refine wpAnyH_ready (rs := [6]) (by kernel_rfl) (by simp) ?_
      refine AllReadyH.cons rfl (fun K hK => ?_) AllReadyH.nil
      go_simp
      refine (implMarkOk_any (by exact htT.out)).mono ?_
      rintro e w1 ⟨rfl, hb1⟩
      replace htT : Hid (MarkAt 4 w1 0 [.string mt, .string mx, .slice ma ml mc, .slice na nl nc] x) := MarkAt.below htT.out hb1
      replace htU : Hid (MarkAt 31 w1 0 [.string ut, .string ux, .slice ua ul uc, .slice va vl vc] u) := MarkAt.below htU.out hb1
      replace hBel : Hid (Below w.heap.size w w1) := hBel.out.trans (hb1.mono hBel.out.size)
      replace hbT : Hid (Box w1 BT [.string mt, .string mx, .slice ma ml mc, .slice na nl nc] 27) := hbT.out.below hb1 hbT.out.lt
      replace hbU : Hid (Box w1 BU [.string ut, .string ux, .slice ua ul uc, .slice va vl vc] 27) := hbU.out.below hb1 hbU.out.lt
      replace hCd : Hid (CodeAt w1 a n) := hCd.out.below hb1
      replace hsg : Hid (Signs w1) := Signs.below hsg.out hb1 hsg.out.lt
      rw [hok'.out]
      refine hK.out _ _ ⟨cell_on hb1 hHeld.1, cell_on hb1 hHeld.2.1, cell_on hb1 hHeld.2.2.1, cell_on hb1 hHeld.2.2.2.1, cell_on hb1 hHeld.2.2.2.2.1, cell_on hb1 hHeld.2.2.2.2.2.1, cell_on hb1 hHeld.2.2.2.2.2.2.1, cell_on hb1 hHeld.2.2.2.2.2.2.2⟩ (fun hHeld => ?_)
      clear hK K
      refine wpAnyH_ready (rs := [8]) (by kernel_rfl) (by simp) ?_
      refine AllReadyH.cons rfl (fun K hK => ?_) AllReadyH.nil
      go_simp
      refine (specMarkOk_any (by exact htT.out)).mono ?_
      rintro e w1 ⟨rfl, hb1⟩
      replace htT : Hid (MarkAt 4 w1 0 [.string mt, .string mx, .slice ma ml mc, .slice na nl nc] x) := MarkAt.below htT.out hb1
      replace htU : Hid (MarkAt 31 w1 0 [.string ut, .string ux, .slice ua ul uc, .slice va vl vc] u) := MarkAt.below htU.out hb1
      replace hBel : Hid (Below w.heap.size w w1) := hBel.out.trans (hb1.mono hBel.out.size)
      replace hbT : Hid (Box w1 BT [.string mt, .string mx, .slice ma ml mc, .slice na nl nc] 27) := hbT.out.below hb1 hbT.out.lt
      replace hbU : Hid (Box w1 BU [.string ut, .string ux, .slice ua ul uc, .slice va vl vc] 27) := hbU.out.below hb1 hbU.out.lt
      replace hCd : Hid (CodeAt w1 a n) := hCd.out.below hb1
      replace hsg : Hid (Signs w1) := Signs.below hsg.out hb1 hsg.out.lt
      rw [hok'.out]
      refine hK.out _ _ ⟨cell_on hb1 hHeld.1, cell_on hb1 hHeld.2.1, cell_on hb1 hHeld.2.2.1, cell_on hb1 hHeld.2.2.2.1, cell_on hb1 hHeld.2.2.2.2.1, cell_on hb1 hHeld.2.2.2.2.2.1, cell_on hb1 hHeld.2.2.2.2.2.2.1, cell_on hb1 hHeld.2.2.2.2.2.2.2⟩ (fun hHeld => ?_)
      clear hK K
      refine tq (i := 9) (d := 32) ?_
      simp only [sz, ss]
      refine tq (i := 10) (d := 33) ?_
      simp only [sz, ss]
      refine tq (i := 11) (d := 34) ?_
      simp only [sz, ss]
      refine tq (i := 12) (d := 35) ?_
      simp only [sz, ss]
      refine tq (i := 13) (d := 36) ?_
      simp only [sz, ss]
      refine tq (i := 14) (d := 37) ?_
      simp only [sz, ss]
      refine tq (i := 15) (d := 38) ?_
      simp only [sz, ss]
      refine tq (i := 16) (d := 39) ?_
      simp only [sz, ss]
      refine tq (i := 17) (d := 40) ?_
      simp only [sz, ss]
      refine tq (i := 18) (d := 41) ?_
      simp only [sz, ss]
      refine tq (i := 19) (d := 42) ?_
      simp only [sz, ss]
      refine tq (i := 20) (d := 43) ?_
      simp only [sz, ss]
      refine tq (i := 21) (d := 44) ?_
      simp only [sz, ss]
      refine tq (i := 22) (d := 45) ?_
      simp only [sz, ss]
      refine tq (i := 23) (d := 46) ?_
      simp only [sz, ss]
      refine tq (i := 24) (d := 47) ?_
      simp only [sz, ss]
      refine tq (i := 25) (d := 48) ?_
      simp only [sz, ss]
      refine tq (i := 27) (d := 50) ?_
      simp only [sz, ss]
      refine wpAnyH_ready (rs := [26]) (by kernel_rfl) (by simp) ?_
      refine AllReadyH.cons rfl (fun K hK => ?_) AllReadyH.nil
      go_simp
      refine (implMarkText_any (by exact htU.out) (by exact hsg.out)).mono ?_
      rintro e w1 ⟨rfl, hb1⟩
      replace htT : Hid (MarkAt 4 w1 0 [.string mt, .string mx, .slice ma ml mc, .slice na nl nc] x) := MarkAt.below htT.out hb1
      replace htU : Hid (MarkAt 31 w1 0 [.string ut, .string ux, .slice ua ul uc, .slice va vl vc] u) := MarkAt.below htU.out hb1
      replace hBel : Hid (Below w.heap.size w w1) := hBel.out.trans (hb1.mono hBel.out.size)
      replace hbT : Hid (Box w1 BT [.string mt, .string mx, .slice ma ml mc, .slice na nl nc] 27) := hbT.out.below hb1 hbT.out.lt
      replace hbU : Hid (Box w1 BU [.string ut, .string ux, .slice ua ul uc, .slice va vl vc] 27) := hbU.out.below hb1 hbU.out.lt
      replace hCd : Hid (CodeAt w1 a n) := hCd.out.below hb1
      replace hsg : Hid (Signs w1) := Signs.below hsg.out hb1 hsg.out.lt
      rw [hTU.out]
      refine hK.out _ _ ⟨cell_on hb1 hHeld.1, cell_on hb1 hHeld.2.1, cell_on hb1 hHeld.2.2.1, cell_on hb1 hHeld.2.2.2.1, cell_on hb1 hHeld.2.2.2.2.1, cell_on hb1 hHeld.2.2.2.2.2.1, cell_on hb1 hHeld.2.2.2.2.2.2.1, cell_on hb1 hHeld.2.2.2.2.2.2.2⟩ (fun hHeld => ?_)
      clear hK K
      refine tq (i := 28) (d := 51) ?_
      simp only [sz, ss]
      refine tq (i := 29) (d := 52) ?_
      simp only [sz, ss]
      refine tq (i := 30) (d := 53) ?_
      simp only [sz, ss]
      refine wpAnyH_done (by kernel_rfl) ?_ _
      clear htT htU hbT hbU
      go_wp2_with fail
      refine (drawReadMark_any hCd.out).mono ?_
      rintro e w6 ⟨⟨sx, rfl, hsx⟩, hb6⟩
      have hsx' : Hid (sx.size ≤ 1048576) := hsx
      replace hBel : Hid (Below w.heap.size w w6) := hBel.out.trans (hb6.mono hBel.out.size)
      replace hsg : Hid (Signs w6) := Signs.below hsg.out hb6 hsg.out.lt
      clear hb6 hCd hsx
      go_wp2_with fail
      refine (implReadMark_any hsx'.out hsg.out).mono ?_
      rintro e w7 ⟨csV, vv, fV, bv, rfl, ownV, _, _, hRV0, hb7⟩
      have hRV : Hid (ReadsM sx vv bv) := hRV0
      have hav := MarkOwn_at (lo := 0) _ _ _ _ _ ownV (fun _ _ => Nat.zero_le _)
      obtain ⟨tv, xv, av, nv, cv, dv, mv, ev, rfl⟩ : ∃ (t1 t2 : ByteArray) (a1 : Option Addr) (n1 c1 : Nat) (a2 : Option Addr) (n2 c2 : Nat), csV = [.string t1, .string t2, .slice a1 n1 c1, .slice a2 n2 c2] := mark_form hav
      have hbA : Below w7.heap.size w7 (w7.alloc (.cells #[.string tv, .string xv, .slice av nv cv, .slice dv mv ev] 27)) := (Below.refl _ _).alloc (Nat.le_refl _) _
      have htV : Hid (MarkAt 31 (w7.alloc (.cells #[.string tv, .string xv, .slice av nv cv, .slice dv mv ev] 27)) 0 [.string tv, .string xv, .slice av nv cv, .slice dv mv ev] vv) := MarkAt.below hav hbA
      have hbV : Hid (Box (w7.alloc (.cells #[.string tv, .string xv, .slice av nv cv, .slice dv mv ev] 27)) w7.heap.size [.string tv, .string xv, .slice av nv cv, .slice dv mv ev] 27) := Box.new w7 _ _
      replace hsg : Hid (Signs (w7.alloc (.cells #[.string tv, .string xv, .slice av nv cv, .slice dv mv ev] 27))) := Signs.below hsg.out (hb7.trans (hbA.mono hb7.size)) hsg.out.lt
      replace hBel : Hid (Below w.heap.size w (w7.alloc (.cells #[.string tv, .string xv, .slice av nv cv, .slice dv mv ev] 27))) := hBel.out.trans ((hb7.trans (hbA.mono hb7.size)).mono hBel.out.size)
      clear hb7 hbA ownV hRV0 hav
      go_wp2_with fail
      refine (specReadMark_any hsx'.out).mono ?_
      rintro e w8 ⟨csS, ss, fS, bs, rfl, ownS, _, _, hRS0, hb8⟩
      obtain ⟨_, e2⟩ := hRS0.one hRV.out
      subst e2
      have has := MarkOwn_at (lo := 0) _ _ _ _ _ ownS (fun _ _ => Nat.zero_le _)
      obtain ⟨ts, xs0, as0, ns, cs0, ds0, ms, es, rfl⟩ : ∃ (t1 t2 : ByteArray) (a1 : Option Addr) (n1 c1 : Nat) (a2 : Option Addr) (n2 c2 : Nat), csS = [.string t1, .string t2, .slice a1 n1 c1, .slice a2 n2 c2] := mark_form has
      have hb8a : Below (w7.alloc (.cells #[.string tv, .string xv, .slice av nv cv, .slice dv mv ev] 27)).heap.size (w7.alloc (.cells #[.string tv, .string xv, .slice av nv cv, .slice dv mv ev] 27)) (w8.alloc (.cells #[.string ts, .string xs0, .slice as0 ns cs0, .slice ds0 ms es] 27)) := hb8.alloc hb8.size _
      replace hBel : Hid (Below w.heap.size w (w8.alloc (.cells #[.string ts, .string xs0, .slice as0 ns cs0, .slice ds0 ms es] 27))) := hBel.out.trans (hb8a.mono hBel.out.size)
      replace hsg : Hid (Signs (w8.alloc (.cells #[.string ts, .string xs0, .slice as0 ns cs0, .slice ds0 ms es] 27))) := Signs.below hsg.out hb8a hsg.out.lt
      replace htV : Hid (MarkAt 31 (w8.alloc (.cells #[.string ts, .string xs0, .slice as0 ns cs0, .slice ds0 ms es] 27)) 0 [.string tv, .string xv, .slice av nv cv, .slice dv mv ev] vv) := MarkAt.below htV.out hb8a
      replace hbV : Hid (Box (w8.alloc (.cells #[.string ts, .string xs0, .slice as0 ns cs0, .slice ds0 ms es] 27)) w7.heap.size [.string tv, .string xv, .slice av nv cv, .slice dv mv ev] 27) := hbV.out.below hb8a hbV.out.lt
      clear hb8a hb8 ownS hRS0 has
      have v0 := hbV.out.cell 0 rfl
      have v1 := hbV.out.cell 1 rfl
      have v2 := hbV.out.cell 2 rfl
      have v3 := hbV.out.cell 3 rfl
      cases bs
      · go_wp2_with fail
        go_ret
        exact ⟨rfl, hBel.out⟩
      · have hTV : Hid (mtR 31 vv = sx) := hRV.out.text
        go_wp2_with fail
        refine (implMarkText_any htV.out hsg.out).mono ?_
        rintro e w10 ⟨rfl, hb10⟩
        rw [hTV.out]
        replace hBel : Hid (Below w.heap.size w w10) := hBel.out.trans (hb10.mono hBel.out.size)
        clear hb10
        go_wp2_with fail
        go_ret
        exact ⟨rfl, hBel.out⟩
    · obtain rfl : bu = false := by rw [hbu.out]; simp; omega
      clear hbu hTU0
      go_wp2_with fail
      generalize w4.alloc (.cells #[.string ut, .string ux, .slice ua ul uc, .slice va vl vc] 27) = w9 at *
      generalize w4.heap.size = BU at *
      replace htT : Hid (MarkAt 4 w9.drew 0 [.string mt, .string mx, .slice ma ml mc, .slice na nl nc] x) := MarkAt.below htT.out (Below.drew (Below.refl _ _))
      replace htU : Hid (MarkAt 31 w9.drew 0 [.string ut, .string ux, .slice ua ul uc, .slice va vl vc] u) := MarkAt.below htU.out (Below.drew (Below.refl _ _))
      replace hBel : Hid (Below w.heap.size w w9.drew) := hBel.out.drew
      replace hbT : Hid (Box w9.drew BT [.string mt, .string mx, .slice ma ml mc, .slice na nl nc] 27) := hbT.out
      replace hbU : Hid (Box w9.drew BU [.string ut, .string ux, .slice ua ul uc, .slice va vl vc] 27) := hbU.out
      replace hCd : Hid (CodeAt w9.drew a n) := hCd.out.below (Below.drew (Below.refl _ _))
      replace hsg : Hid (Signs w9.drew) := hsg.out
      refine wp_region_held_drew (S := fun w' => w'.cell? ⟨BT, 0, none⟩ = some (.string mt) ∧ w'.cell? ⟨BT, 1, none⟩ = some (.string mx) ∧ w'.cell? ⟨BT, 2, none⟩ = some (.slice ma ml mc) ∧ w'.cell? ⟨BT, 3, none⟩ = some (.slice na nl nc) ∧ w'.cell? ⟨BU, 0, none⟩ = some (.string ut) ∧ w'.cell? ⟨BU, 1, none⟩ = some (.string ux) ∧ w'.cell? ⟨BU, 2, none⟩ = some (.slice ua ul uc) ∧ w'.cell? ⟨BU, 3, none⟩ = some (.slice va vl vc)) (by kernel_rfl) ⟨hbT.out.cell 0 rfl, hbT.out.cell 1 rfl, hbT.out.cell 2 rfl, hbT.out.cell 3 rfl, hbU.out.cell 0 rfl, hbU.out.cell 1 rfl, hbU.out.cell 2 rfl, hbU.out.cell 3 rfl⟩ (fun hHeld => ?_)
      refine tq (i := 0) (d := 23) ?_
      simp only [sz, ss]
      refine tq (i := 1) (d := 24) ?_
      simp only [sz, ss]
      refine wpAnyH_ready (rs := [2]) (by kernel_rfl) (by simp) ?_
      refine AllReadyH.cons rfl (fun K hK => ?_) AllReadyH.nil
      go_simp
      refine (specMarkText_any (by exact htT.out)).mono ?_
      rintro e w1 ⟨rfl, hb1⟩
      replace htT : Hid (MarkAt 4 w1 0 [.string mt, .string mx, .slice ma ml mc, .slice na nl nc] x) := MarkAt.below htT.out hb1
      replace htU : Hid (MarkAt 31 w1 0 [.string ut, .string ux, .slice ua ul uc, .slice va vl vc] u) := MarkAt.below htU.out hb1
      replace hBel : Hid (Below w.heap.size w w1) := hBel.out.trans (hb1.mono hBel.out.size)
      replace hbT : Hid (Box w1 BT [.string mt, .string mx, .slice ma ml mc, .slice na nl nc] 27) := hbT.out.below hb1 hbT.out.lt
      replace hbU : Hid (Box w1 BU [.string ut, .string ux, .slice ua ul uc, .slice va vl vc] 27) := hbU.out.below hb1 hbU.out.lt
      replace hCd : Hid (CodeAt w1 a n) := hCd.out.below hb1
      replace hsg : Hid (Signs w1) := Signs.below hsg.out hb1 hsg.out.lt
      rw [hS0.out]
      refine hK.out _ _ ⟨cell_on hb1 hHeld.1, cell_on hb1 hHeld.2.1, cell_on hb1 hHeld.2.2.1, cell_on hb1 hHeld.2.2.2.1, cell_on hb1 hHeld.2.2.2.2.1, cell_on hb1 hHeld.2.2.2.2.2.1, cell_on hb1 hHeld.2.2.2.2.2.2.1, cell_on hb1 hHeld.2.2.2.2.2.2.2⟩ (fun hHeld => ?_)
      clear hK K
      refine tq (i := 3) (d := 26) ?_
      simp only [sz, ss]
      refine tq (i := 4) (d := 27) ?_
      simp only [sz, ss]
      refine tq (i := 5) (d := 28) ?_
      simp only [sz, ss]
      refine tq (i := 7) (d := 30) ?_
      simp only [sz, ss]
      refine wpAnyH_ready (rs := [6]) (by kernel_rfl) (by simp) ?_
      refine AllReadyH.cons rfl (fun K hK => ?_) AllReadyH.nil
      go_simp
      refine (implMarkOk_any (by exact htT.out)).mono ?_
      rintro e w1 ⟨rfl, hb1⟩
      replace htT : Hid (MarkAt 4 w1 0 [.string mt, .string mx, .slice ma ml mc, .slice na nl nc] x) := MarkAt.below htT.out hb1
      replace htU : Hid (MarkAt 31 w1 0 [.string ut, .string ux, .slice ua ul uc, .slice va vl vc] u) := MarkAt.below htU.out hb1
      replace hBel : Hid (Below w.heap.size w w1) := hBel.out.trans (hb1.mono hBel.out.size)
      replace hbT : Hid (Box w1 BT [.string mt, .string mx, .slice ma ml mc, .slice na nl nc] 27) := hbT.out.below hb1 hbT.out.lt
      replace hbU : Hid (Box w1 BU [.string ut, .string ux, .slice ua ul uc, .slice va vl vc] 27) := hbU.out.below hb1 hbU.out.lt
      replace hCd : Hid (CodeAt w1 a n) := hCd.out.below hb1
      replace hsg : Hid (Signs w1) := Signs.below hsg.out hb1 hsg.out.lt
      rw [hok'.out]
      refine hK.out _ _ ⟨cell_on hb1 hHeld.1, cell_on hb1 hHeld.2.1, cell_on hb1 hHeld.2.2.1, cell_on hb1 hHeld.2.2.2.1, cell_on hb1 hHeld.2.2.2.2.1, cell_on hb1 hHeld.2.2.2.2.2.1, cell_on hb1 hHeld.2.2.2.2.2.2.1, cell_on hb1 hHeld.2.2.2.2.2.2.2⟩ (fun hHeld => ?_)
      clear hK K
      refine wpAnyH_ready (rs := [8]) (by kernel_rfl) (by simp) ?_
      refine AllReadyH.cons rfl (fun K hK => ?_) AllReadyH.nil
      go_simp
      refine (specMarkOk_any (by exact htT.out)).mono ?_
      rintro e w1 ⟨rfl, hb1⟩
      replace htT : Hid (MarkAt 4 w1 0 [.string mt, .string mx, .slice ma ml mc, .slice na nl nc] x) := MarkAt.below htT.out hb1
      replace htU : Hid (MarkAt 31 w1 0 [.string ut, .string ux, .slice ua ul uc, .slice va vl vc] u) := MarkAt.below htU.out hb1
      replace hBel : Hid (Below w.heap.size w w1) := hBel.out.trans (hb1.mono hBel.out.size)
      replace hbT : Hid (Box w1 BT [.string mt, .string mx, .slice ma ml mc, .slice na nl nc] 27) := hbT.out.below hb1 hbT.out.lt
      replace hbU : Hid (Box w1 BU [.string ut, .string ux, .slice ua ul uc, .slice va vl vc] 27) := hbU.out.below hb1 hbU.out.lt
      replace hCd : Hid (CodeAt w1 a n) := hCd.out.below hb1
      replace hsg : Hid (Signs w1) := Signs.below hsg.out hb1 hsg.out.lt
      rw [hok'.out]
      refine hK.out _ _ ⟨cell_on hb1 hHeld.1, cell_on hb1 hHeld.2.1, cell_on hb1 hHeld.2.2.1, cell_on hb1 hHeld.2.2.2.1, cell_on hb1 hHeld.2.2.2.2.1, cell_on hb1 hHeld.2.2.2.2.2.1, cell_on hb1 hHeld.2.2.2.2.2.2.1, cell_on hb1 hHeld.2.2.2.2.2.2.2⟩ (fun hHeld => ?_)
      clear hK K
      refine tq (i := 9) (d := 32) ?_
      simp only [sz, ss]
      refine tq (i := 10) (d := 33) ?_
      simp only [sz, ss]
      refine tq (i := 11) (d := 34) ?_
      simp only [sz, ss]
      refine tq (i := 12) (d := 35) ?_
      simp only [sz, ss]
      refine tq (i := 13) (d := 36) ?_
      simp only [sz, ss]
      refine tq (i := 14) (d := 37) ?_
      simp only [sz, ss]
      refine tq (i := 15) (d := 38) ?_
      simp only [sz, ss]
      refine tq (i := 16) (d := 39) ?_
      simp only [sz, ss]
      refine tq (i := 17) (d := 40) ?_
      simp only [sz, ss]
      refine take_lit (i := 18) (d := 41) (v := .bool false) rfl rfl (by kernel_rfl) (by kernel_rfl) (by kernel_rfl) (fun _ _ _ h => h) (Or.inl ⟨by rfl, ?_⟩) (by assumption) ?_
      · (intro w hSw; (try dsimp only at hSw); go_simp; first | done | omega | (simp; omega))
      simp only [sz, ss]
      refine tq (i := 19) (d := 42) ?_
      simp only [sz, ss]
      refine tq (i := 20) (d := 43) ?_
      simp only [sz, ss]
      refine tq (i := 21) (d := 44) ?_
      simp only [sz, ss]
      refine tq (i := 22) (d := 45) ?_
      simp only [sz, ss]
      refine tq (i := 23) (d := 46) ?_
      simp only [sz, ss]
      refine tq (i := 24) (d := 47) ?_
      simp only [sz, ss]
      refine tn (i := 25) (d := 48) ?_
      simp only [sz, ss]
      refine tn (i := 26) (d := 49) ?_
      simp only [sz, ss]
      refine tn (i := 27) (d := 50) ?_
      simp only [sz, ss]
      refine tn (i := 28) (d := 51) ?_
      simp only [sz, ss]
      refine tq (i := 29) (d := 52) ?_
      simp only [sz, ss]
      refine tq (i := 30) (d := 53) ?_
      simp only [sz, ss]
      refine wpAnyH_done (by kernel_rfl) ?_ _
      clear htT htU hbT hbU
      go_wp2_with fail
      refine (drawReadMark_any hCd.out).mono ?_
      rintro e w6 ⟨⟨sx, rfl, hsx⟩, hb6⟩
      have hsx' : Hid (sx.size ≤ 1048576) := hsx
      replace hBel : Hid (Below w.heap.size w w6) := hBel.out.trans (hb6.mono hBel.out.size)
      replace hsg : Hid (Signs w6) := Signs.below hsg.out hb6 hsg.out.lt
      clear hb6 hCd hsx
      go_wp2_with fail
      refine (implReadMark_any hsx'.out hsg.out).mono ?_
      rintro e w7 ⟨csV, vv, fV, bv, rfl, ownV, _, _, hRV0, hb7⟩
      have hRV : Hid (ReadsM sx vv bv) := hRV0
      have hav := MarkOwn_at (lo := 0) _ _ _ _ _ ownV (fun _ _ => Nat.zero_le _)
      obtain ⟨tv, xv, av, nv, cv, dv, mv, ev, rfl⟩ : ∃ (t1 t2 : ByteArray) (a1 : Option Addr) (n1 c1 : Nat) (a2 : Option Addr) (n2 c2 : Nat), csV = [.string t1, .string t2, .slice a1 n1 c1, .slice a2 n2 c2] := mark_form hav
      have hbA : Below w7.heap.size w7 (w7.alloc (.cells #[.string tv, .string xv, .slice av nv cv, .slice dv mv ev] 27)) := (Below.refl _ _).alloc (Nat.le_refl _) _
      have htV : Hid (MarkAt 31 (w7.alloc (.cells #[.string tv, .string xv, .slice av nv cv, .slice dv mv ev] 27)) 0 [.string tv, .string xv, .slice av nv cv, .slice dv mv ev] vv) := MarkAt.below hav hbA
      have hbV : Hid (Box (w7.alloc (.cells #[.string tv, .string xv, .slice av nv cv, .slice dv mv ev] 27)) w7.heap.size [.string tv, .string xv, .slice av nv cv, .slice dv mv ev] 27) := Box.new w7 _ _
      replace hsg : Hid (Signs (w7.alloc (.cells #[.string tv, .string xv, .slice av nv cv, .slice dv mv ev] 27))) := Signs.below hsg.out (hb7.trans (hbA.mono hb7.size)) hsg.out.lt
      replace hBel : Hid (Below w.heap.size w (w7.alloc (.cells #[.string tv, .string xv, .slice av nv cv, .slice dv mv ev] 27))) := hBel.out.trans ((hb7.trans (hbA.mono hb7.size)).mono hBel.out.size)
      clear hb7 hbA ownV hRV0 hav
      go_wp2_with fail
      refine (specReadMark_any hsx'.out).mono ?_
      rintro e w8 ⟨csS, ss, fS, bs, rfl, ownS, _, _, hRS0, hb8⟩
      obtain ⟨_, e2⟩ := hRS0.one hRV.out
      subst e2
      have has := MarkOwn_at (lo := 0) _ _ _ _ _ ownS (fun _ _ => Nat.zero_le _)
      obtain ⟨ts, xs0, as0, ns, cs0, ds0, ms, es, rfl⟩ : ∃ (t1 t2 : ByteArray) (a1 : Option Addr) (n1 c1 : Nat) (a2 : Option Addr) (n2 c2 : Nat), csS = [.string t1, .string t2, .slice a1 n1 c1, .slice a2 n2 c2] := mark_form has
      have hb8a : Below (w7.alloc (.cells #[.string tv, .string xv, .slice av nv cv, .slice dv mv ev] 27)).heap.size (w7.alloc (.cells #[.string tv, .string xv, .slice av nv cv, .slice dv mv ev] 27)) (w8.alloc (.cells #[.string ts, .string xs0, .slice as0 ns cs0, .slice ds0 ms es] 27)) := hb8.alloc hb8.size _
      replace hBel : Hid (Below w.heap.size w (w8.alloc (.cells #[.string ts, .string xs0, .slice as0 ns cs0, .slice ds0 ms es] 27))) := hBel.out.trans (hb8a.mono hBel.out.size)
      replace hsg : Hid (Signs (w8.alloc (.cells #[.string ts, .string xs0, .slice as0 ns cs0, .slice ds0 ms es] 27))) := Signs.below hsg.out hb8a hsg.out.lt
      replace htV : Hid (MarkAt 31 (w8.alloc (.cells #[.string ts, .string xs0, .slice as0 ns cs0, .slice ds0 ms es] 27)) 0 [.string tv, .string xv, .slice av nv cv, .slice dv mv ev] vv) := MarkAt.below htV.out hb8a
      replace hbV : Hid (Box (w8.alloc (.cells #[.string ts, .string xs0, .slice as0 ns cs0, .slice ds0 ms es] 27)) w7.heap.size [.string tv, .string xv, .slice av nv cv, .slice dv mv ev] 27) := hbV.out.below hb8a hbV.out.lt
      clear hb8a hb8 ownS hRS0 has
      have v0 := hbV.out.cell 0 rfl
      have v1 := hbV.out.cell 1 rfl
      have v2 := hbV.out.cell 2 rfl
      have v3 := hbV.out.cell 3 rfl
      cases bs
      · go_wp2_with fail
        go_ret
        exact ⟨rfl, hBel.out⟩
      · have hTV : Hid (mtR 31 vv = sx) := hRV.out.text
        go_wp2_with fail
        refine (implMarkText_any htV.out hsg.out).mono ?_
        rintro e w10 ⟨rfl, hb10⟩
        rw [hTV.out]
        replace hBel : Hid (Below w.heap.size w w10) := hBel.out.trans (hb10.mono hBel.out.size)
        clear hb10
        go_wp2_with fail
        go_ret
        exact ⟨rfl, hBel.out⟩
end Go.Proofs.YtlcddndpfhdakaaDoor
