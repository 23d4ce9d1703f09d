/- Trees and their texts: what comes back from a text. -/
import Derived.Test.YtpmmekfgcapdgaaRtSpecTop
namespace Go.Proofs.Ytpmmekfgcapdgaa
open Go.RowKit Go.Deep
/-- a tree, laid out as data are -/
def canonT : Nat → TD → TD
  | 0, x => x
  | n + 1, x => mkT (strT x) ((kidsOf x).map (canonT n))
theorem szF_map {f g : TD → Int → Option Int} {m : TD → TD} (h : ∀ x room, g (m x) room = f x room) : ∀ (ks : List TD) (room size : Int), szF g (ks.map m) room size = szF f ks room size := by
  intro ks
  induction ks with
  | nil => intro room size; rfl
  | cons k ks ih =>
    intro room size
    show (match g (m k) (room - size) with | none => none | some q => szF g (ks.map m) room (size + q)) = (match f k (room - size) with | none => none | some q => szF f ks room (size + q))
    rw [h]
    cases f k (room - size) with
    | none => rfl
    | some q => exact ih _ _
theorem canonT_tag (n : Nat) (x : TD) : tagOf (canonT n x) = tagOf x := by
  cases n with
  | zero => rfl
  | succ n => simp only [canonT, mkT_tag]; simp [strT]
theorem canonT_size : ∀ (n : Nat) (x : TD) (room : Int), szD n (canonT n x) room = szD n x room := by
  intro n
  induction n with
  | zero => intro x room; rfl
  | succ n ih =>
    intro x room
    unfold szD
    rw [canonT_tag]
    simp only [canonT, mkT_kids]
    rw [szF_map ih]
theorem textK_map {f g : TD → List UInt8} {m : TD → TD} (h : ∀ x, g (m x) = f x) : ∀ ks : List TD, textK g (ks.map m) = textK f ks := by
  intro ks
  induction ks with
  | nil => rfl
  | cons k ks ih => simp only [List.map_cons, textK]; rw [h, ih]
theorem canonT_text : ∀ (n : Nat) (x : TD), textD n (canonT n x) = textD n x := by
  intro n
  induction n with
  | zero => intro x; rfl
  | succ n ih =>
    intro x
    simp only [textD, headT, footT]
    rw [canonT_tag]
    simp only [canonT, mkT_kids]
    rw [textK_map ih]
/-- a right tree is laid out to its last level -/
theorem szF_kids {f : TD → Int → Option Int} : ∀ (ks : List TD) (room size m : Int), szF f ks room size = some m → ∀ k ∈ ks, ∃ r q, f k r = some q := by
  intro ks
  induction ks with
  | nil => intro room size m _ k hk; cases hk
  | cons k ks ih =>
    intro room size m h k' hk
    unfold szF at h
    split at h
    · cases h
    · rename_i q hq
      rcases List.mem_cons.1 hk with rfl | hk
      · exact ⟨_, _, hq⟩
      · exact ih _ _ _ h k' hk
theorem canonT_of : ∀ (n : Nat) (x : TD) (room m : Int), szD n x room = some m → Canon n (canonT n x) := by
  intro n
  induction n with
  | zero => intro x room m h; simp [szD] at h
  | succ n ih =>
    intro x room m h
    refine ⟨by simp only [canonT]; rw [mkT_kids, mkT_str], fun k hk => ?_⟩
    simp only [canonT, mkT_kids, List.mem_map] at hk
    obtain ⟨k0, h0, rfl⟩ := hk
    unfold szD at h
    split at h
    · cases h
    · obtain ⟨r, q, hq⟩ := szF_kids _ _ _ _ h k0 h0
      exact ih k0 r q hq
/-- a right tree's text is read -/
theorem gd_text {n : Nat} {x : TD} {m : Int} (h : szD n x 30 = some m) : ∃ c : Nat, (c : Int) = m ∧ c ≤ 30 ∧ Gd n (canonT n x) c (textD n x) [] := by
  obtain ⟨c, e1, e2⟩ := gd_of n (canonT n x) 30 m (canonT_of n x 30 m h) (by rw [canonT_size]; exact h) []
  rw [List.append_nil, canonT_text] at e2
  have := szD_range _ _ _ _ h
  exact ⟨c, e1, by omega, e2⟩
/-- what is read has that text -/
theorem ReadsT.text {s : ByteArray} {x : TD} (h : ReadsT s x true) : textR 31 x = s := by
  rcases h with ⟨_, _, c, h1, h2⟩ | ⟨h, _⟩
  · have g2 : Gd 31 x c s.data.toList [] := Gd.deep _ _ _ _ _ _ h1 (by omega)
    have hsz := Gd.size 31 x c _ _ 30 g2
    rw [if_pos (by omega)] at hsz
    have htx := Gd.text 31 x c _ _ g2
    rw [List.append_nil] at htx
    rw [textR_yes (by rw [hsz]; rfl)]
    exact ba_of (by rw [htx])
  · cases h
/-- of a tree's text there is read just what is right -/
theorem reads_same {n : Nat} {x u : TD} {b : Bool} (h : ReadsT (textR n x) u b) : b = (okB (szD n x 30) && decide ((textR n x).size ≤ 1000)) := by
  cases hq : szD n x 30 with
  | none =>
    have e : textR n x = ⟨#[]⟩ := textR_no (by rw [hq]; rfl)
    rcases h with ⟨_, _, c, h1, _⟩ | ⟨h, _⟩
    · rw [e] at h1
      obtain ⟨s, ks, m, c', _, _, _, h4, _⟩ := h1
      cases h4
    · rw [h]; rfl
  | some m =>
    have e : textR n x = ⟨(textD n x).toArray⟩ := textR_yes (by rw [hq]; rfl)
    obtain ⟨c, e1, e2, g⟩ := gd_text hq
    rcases h with ⟨h, h1, _⟩ | ⟨h, _, h2⟩
    · rw [h]; simp [okB, h1]
    · rw [h]
      by_cases hs : (textR n x).size ≤ 1000
      · exact (h2 hs _ _ c (by rw [e]; exact g) e2).elim
      · simp [hs]
/-- and it has as many nodes -/
theorem reads_size {n : Nat} {x u : TD} (h : ReadsT (textR n x) u true) : resI (szD 31 u 30) = resI (szD n x 30) := by
  have hb := reads_same h
  cases hq : szD n x 30 with
  | none => rw [hq] at hb; cases hb
  | some m =>
    have e : textR n x = ⟨(textD n x).toArray⟩ := textR_yes (by rw [hq]; rfl)
    obtain ⟨c, e1, e2, g⟩ := gd_text hq
    rcases h with ⟨_, _, d, h1, h2⟩ | ⟨h, _⟩
    · rw [e] at h1
      obtain ⟨_, rfl, _⟩ := Gd.one _ _ _ _ _ _ _ _ _ h1 g
      have hsz := Gd.size 31 u d _ _ 30 (Gd.deep _ _ _ _ _ _ h1 (by omega))
      rw [if_pos (by omega)] at hsz
      rw [hsz, e1]
    · cases h
theorem textR_small {n : Nat} {x : TD} : (textR n x).size ≤ 510 := by
  cases hq : szD n x 30 with
  | none => rw [textR_no (by rw [hq]; rfl)]; decide
  | some m =>
    rw [textR_yes (by rw [hq]; rfl)]
    have h1 := szD_text _ _ _ _ hq
    have h2 := szD_range _ _ _ _ hq
    show (textD n x).toArray.size ≤ _
    rw [List.size_toArray]
    omega
end Go.Proofs.Ytpmmekfgcapdgaa
