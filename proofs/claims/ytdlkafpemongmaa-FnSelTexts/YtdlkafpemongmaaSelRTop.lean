/- ReadSel of the program, and l1Cut: walked. -/
import Derived.Test.YtdlkafpemongmaaRWhole
namespace Go.Proofs.Ytdlkafpemongmaa
open Go.RowKit Go.Deep
theorem reads_of {s : ByteArray} {x : List StepD} (h : RdW s x true) (hs : selB x = true) : ReadsS s x true := by
  rcases h with ⟨_, _, h⟩ | ⟨h, _⟩
  · refine Or.inl ⟨rfl, hs, ?_⟩
    have := rdSel_sound h
    rw [List.append_nil] at this; exact this
  · cases h
theorem text_fits {s : ByteArray} {l : List StepD} (h : selB l = true) (e : s.data.toList = textS l) : s.size ≤ 42 := by
  have := textS_small h
  rw [← e, bd_len] at this; exact this
theorem reads_none {s : ByteArray} {x : List StepD} (h : RdW s x false) : ReadsS s [] false := by
  rcases h with ⟨h, _⟩ | ⟨_, _, h⟩
  · cases h
  · exact Or.inr ⟨rfl, rfl, fun l' h1 h2 => h (text_fits h1 h2) l' (by rw [h2]; exact rdSel_of h1)⟩
theorem reads_wrong {s : ByteArray} {x : List StepD} (h : RdW s x true) (hs : selB x = false) : ReadsS s [] false := by
  rcases h with ⟨_, _, h⟩ | ⟨h, _⟩
  · refine Or.inr ⟨rfl, rfl, fun l' h1 h2 => ?_⟩
    rw [h2, rdSel_of h1] at h
    simp only [Option.some.injEq, Prod.mk.injEq] at h
    rw [← h.1, h1] at hs; cases hs
  · cases h
def ReadR (s : ByteArray) (w : World) (e : Ending) (w' : World) : Prop := ∃ (b3 : Option Addr) (l3 c3 : Nat) (x : List StepD) (fs : List Nat) (b : Bool), e = .returned (.tuple #[.slice b3 l3 c3, .bool b]) ∧ SeqOwn 2 StepOwn w' (.slice b3 l3 c3) x fs ∧ fs.Nodup ∧ (∀ b ∈ fs, w.heap.size ≤ b) ∧ ReadsS s x b ∧ Below w.heap.size w w'
theorem ReadR.mk {s : ByteArray} {w w' : World} (b3 : Option Addr) (l3 c3 : Nat) (x : List StepD) (fs : List Nat) (b : Bool) (h1 : SeqOwn 2 StepOwn w' (.slice b3 l3 c3) x fs) (h2 : fs.Nodup) (h3 : ∀ b ∈ fs, w.heap.size ≤ b) (h4 : ReadsS s x b) (h5 : Below w.heap.size w w') : ReadR s w (.returned (.tuple #[.slice b3 l3 c3, .bool b])) w' := ⟨b3, l3, c3, x, fs, b, rfl, h1, h2, h3, h4, h5⟩
set_option maxRecDepth 100000 in
set_option maxHeartbeats 2000000 in
theorem implReadSel_any {w : World} {s : ByteArray} (hs : s.size ≤ 1048576) :
    Calls Try.prog 8 #[.string s] w fun e w' => ReadR s w e w' := by
  go_enter Try.func8, Try.ntmps8
  go_wp2_with fail
  refine (readWhole_any hs).mono ?_
  rintro e w1 ⟨b3, l3, c3, x, fs, b, rfl, hto, hnd, hlo, hr, hb1⟩
  have hto' : Hid (SeqOwn 2 StepOwn w1 (.slice b3 l3 c3) x fs) := hto
  have hnd' : Hid fs.Nodup := hnd
  have hlo' : Hid (∀ b ∈ fs, w.heap.size ≤ b) := hlo
  have hr' : Hid (RdW s x b) := hr
  have hb1' : Hid (Below w.heap.size w w1) := hb1
  clear hto hnd hlo hr hb1
  cases b
  · go_wp2_with fail
    go_ret2
    exact ReadR.mk none 0 0 [] [] false (seqOwn_nil _) List.nodup_nil (by simp) (reads_none hr'.out) hb1'.out
  · go_wp2_with fail
    refine (implSelOk_any (lo := 0) (hto'.out.at StepOwn_at (fun _ _ => Nat.zero_le _))).mono ?_
    rintro e w2 ⟨rfl, hb2⟩
    have hb2' : Hid (Below w.heap.size w w2) := hb1'.out.trans (hb2.mono hb1'.out.size)
    have hto2 : Hid (SeqOwn 2 StepOwn w2 (.slice b3 l3 c3) x fs) := hto'.out.stays StepOwn_stays (fun b q => hb2.block b (hto'.out.lt StepOwn_lt b q))
    clear hb2
    rcases (by cases selB x <;> simp : selB x = false ∨ selB x = true) with hs | hs
    · rw [hs]
      go_wp2_with fail
      go_ret2
      exact ReadR.mk none 0 0 [] [] false (seqOwn_nil _) List.nodup_nil (by simp) (reads_wrong hr'.out hs) hb2'.out
    · rw [hs]
      go_wp2_with fail
      go_ret2
      exact ReadR.mk _ _ _ x fs true hto2.out hnd'.out hlo'.out (reads_of hr'.out hs) hb2'.out
/-- cut at the first blank -/
def CutAt (s a r : ByteArray) (b : Bool) : Prop := (b = true ∧ s.data.toList = a.data.toList ++ 32 :: r.data.toList ∧ ∀ c ∈ a.data.toList, c ≠ 32) ∨ (b = false ∧ a = s ∧ r = ⟨#[]⟩ ∧ ∀ c ∈ s.data.toList, c ≠ 32)
def CutR (s : ByteArray) (e : Ending) : Prop := ∃ (a r : ByteArray) (b : Bool), e = .returned (.tuple #[.string a, .string r, .bool b]) ∧ CutAt s a r b
theorem CutR.mk {s a r : ByteArray} {b : Bool} (h : CutAt s a r b) : CutR s (.returned (.tuple #[.string a, .string r, .bool b])) := ⟨a, r, b, rfl, h⟩
theorem ext_to (s : ByteArray) (k : Nat) : (s.extract 0 k).data.toList = s.data.toList.take k := by rw [bd_mid]; simp
theorem ext_from (s : ByteArray) (k : Nat) : (s.extract k s.size).data.toList = rest s k := by
  rw [bd_mid, List.take_of_length_le (by rw [List.length_drop, bd_len]; omega)]
set_option maxHeartbeats 2000000 in
theorem l1Cut_any {w : World} {s : ByteArray} (hs : s.size ≤ 1048576) :
    Calls Try.prog 30 #[.string s, .int .u8 32] w fun e w' => CutR s e ∧ ∃ n, w' = w.drewN n := by
  have hsz : (s.size : Int) ≤ 1048576 := by omega
  go_enter Try.func30, Try.ntmps30
  go_wp2_with fail
  go_loop [7] (fun i => ∃ k : Nat, k ≤ s.size ∧ i = .int .i64 k ∧ Hid (∀ c ∈ s.data.toList.take k, c ≠ 32)) (fun i => s.size - (intOf i).toNat)
  case atStart => exact ⟨0, Nat.zero_le _, rfl, by show ∀ c ∈ _, _; simp⟩
  case round =>
    obtain ⟨k, hk, rfl, hall⟩ := hrel
    by_cases hlt : k < s.size
    · by_cases he : (s[k].toNat : Int) = 32
      · have hsl1 : ∀ w, (Instr.slice 9 (.string s) none (some (.int .i64 (k : Int))) none).run Try.prog w = .ok (.string (s.extract 0 k)) w := fun w => sl_to s k hk w
        have hsl2 : ∀ w, (Instr.slice 9 (.string s) (some (.int .i64 ((k : Int) + 1))) none none).run Try.prog w = .ok (.string (s.extract (k + 1) s.size)) w := fun w => by have := sl_from s (k + 1) hlt w; simpa using this
        have hcut : Hid (CutAt s (s.extract 0 k) (s.extract (k + 1) s.size) true) := by
          refine Or.inl ⟨rfl, ?_, ?_⟩
          · rw [ext_to, ext_from]
            have e1 := rest_app (s := s) (p := 0) (n := k)
            have e2 : rest s 0 = s.data.toList := by simp [rest]
            rw [Nat.zero_add, e2, rest_cons hlt] at e1
            have e3 : s[k] = 32 := by apply UInt8.toNat_inj.1; show s[k].toNat = 32; omega
            rw [e3] at e1; exact e1
          · rw [ext_to]; exact hall.out
        go_wp2_with fail
        go_quiet (fail)
        go_wp2_with fail
        go_ret3
        exact ⟨CutR.mk hcut.out, nq, rfl⟩
      · have hne : Hid (∀ c ∈ s.data.toList.take (k + 1), c ≠ 32) := by
          intro c hc
          rw [take_snoc s k hlt] at hc
          rcases List.mem_append.1 hc with h | h
          · exact hall.out c h
          · simp at h; rw [h]; intro e; apply he; rw [e]; rfl
        go_wp2_with fail
        go_round
        case rel => exact ⟨k + 1, by omega, by go_num, hne⟩
        case measure => simp [intOf]; omega
    · have hend : Hid (∀ c ∈ s.data.toList, c ≠ 32) := by have := hall.out; rwa [List.take_of_length_le (by rw [bd_len]; omega)] at this
      go_wp2_with fail
      go_ret3
      have hc : CutAt s s ⟨#[]⟩ false := Or.inr ⟨rfl, rfl, rfl, hend.out⟩
      exact ⟨CutR.mk hc, 0, rfl⟩
end Go.Proofs.Ytdlkafpemongmaa
