/- ReadProg of the program; texts cut at a byte; numbers as the specification reads them: walked. -/
import Derived.Test.YtdapgihghbmlfaaDoorRWhole
import Derived.Test.YtdapgihghbmlfaaDoorVmDepI
namespace Go.Proofs.YtdapgihghbmlfaaDoor
open Go.RowKit Go.Deep
theorem reads_of {s : ByteArray} {x : List InstrD} (h : RdW s x true) (hs : OkP x) : ReadsP s x true := by
  rcases h with ⟨_, _, h⟩ | ⟨h, _⟩
  · refine Or.inl ⟨rfl, hs, ?_⟩
    have := rdProg_sound h
    rw [List.append_nil] at this; exact this
  · cases h
theorem text_fits {s : ByteArray} {l : List InstrD} (h : OkP l) (e : s.data.toList = textP l) : s.size ≤ 278 := by
  have := textP_small h
  rw [← e, bd_len] at this; exact this
theorem reads_none {s : ByteArray} {x : List InstrD} (h : RdW s x false) : ReadsP s [] false := by
  rcases h with ⟨h, _⟩ | ⟨_, _, h⟩
  · cases h
  · exact Or.inr ⟨rfl, rfl, fun l' h1 h2 => h (text_fits h1 h2) l' (by rw [h2]; exact rdProg_of h1.parts.1 h1.parts.2.2)⟩
theorem reads_wrong {s : ByteArray} {x : List InstrD} (h : RdW s x true) (hs : ¬ OkP x) : ReadsP s [] false := by
  rcases h with ⟨_, _, h⟩ | ⟨h, _⟩
  · refine Or.inr ⟨rfl, rfl, fun l' h1 h2 => ?_⟩
    rw [h2, rdProg_of h1.parts.1 h1.parts.2.2] at h
    simp only [Option.some.injEq, Prod.mk.injEq] at h
    rw [← h.1] at hs; exact hs h1
  · cases h
theorem not_okP {l : List InstrD} {ys : List Int} (h : Ans l false ys) : ¬ OkP l := fun ⟨zs, q⟩ => by have := (ans_same h q).1; cases this
def ReadR (s : ByteArray) (w : World) (e : Ending) (w' : World) : Prop := ∃ (b3 : Option Addr) (l3 c3 : Nat) (x : List InstrD) (fs : List Nat) (b : Bool), e = .returned (.tuple #[.slice b3 l3 c3, .bool b]) ∧ SeqOwn 3 InstrOwn w' (.slice b3 l3 c3) x fs ∧ fs.Nodup ∧ (∀ b ∈ fs, w.heap.size ≤ b) ∧ ReadsP s x b ∧ Below w.heap.size w w'
theorem ReadR.mk {s : ByteArray} {w w' : World} (b3 : Option Addr) (l3 c3 : Nat) (x : List InstrD) (fs : List Nat) (b : Bool) (h1 : SeqOwn 3 InstrOwn w' (.slice b3 l3 c3) x fs) (h2 : fs.Nodup) (h3 : ∀ b ∈ fs, w.heap.size ≤ b) (h4 : ReadsP s x b) (h5 : Below w.heap.size w w') : ReadR s w (.returned (.tuple #[.slice b3 l3 c3, .bool b])) w' := ⟨b3, l3, c3, x, fs, b, rfl, h1, h2, h3, h4, h5⟩
set_option maxRecDepth 100000 in
set_option maxHeartbeats 2000000 in
theorem implReadProg_any {w : World} {s : ByteArray} (hs : s.size ≤ 1048576) (hT : Tb w) :
    Calls Tryd.prog 11 #[.string s] w fun e w' => ReadR s w e w' := by
  have hT' : Hid (Tb w) := hT
  clear hT
  go_enter Tryd.func11, Tryd.ntmps11
  go_wp2_with fail
  refine (readWhole_any hs hT'.out).mono ?_
  rintro e w1 ⟨b3, l3, c3, x, fs, b, rfl, hto, hnd, hlo, hr, hb1⟩
  have hto' : Hid (SeqOwn 3 InstrOwn w1 (.slice b3 l3 c3) x fs) := hto
  have hnd' : Hid fs.Nodup := hnd
  have hlo' : Hid (∀ b ∈ fs, w.heap.size ≤ b) := hlo
  have hr' : Hid (RdW s x b) := hr
  have hb1' : Hid (Below w.heap.size w w1) := hb1
  have hF1 : Hid (Forms w1) := (hT'.out.below hb1 hT'.out.lt).1
  clear hto hnd hlo hr hb1
  cases b
  · go_wp2_with fail
    go_ret2
    exact ReadR.mk none 0 0 [] [] false (seqOwn_nil _) List.nodup_nil (by simp) (reads_none hr'.out) hb1'.out
  · go_wp2_with fail
    refine (implProgOk_any (lo := 0) (hto'.out.at InstrOwn_at (fun _ _ => Nat.zero_le _)) hF1.out).mono ?_
    rintro e w2 ⟨⟨ok, ys, rfl, hans⟩, hb2⟩
    have hb2' : Hid (Below w.heap.size w w2) := hb1'.out.trans (hb2.mono hb1'.out.size)
    have hto2 : Hid (SeqOwn 3 InstrOwn w2 (.slice b3 l3 c3) x fs) := hto'.out.stays InstrOwn_stays (fun b q => hb2.block b (hto'.out.lt InstrOwn_lt b q))
    have hans' : Hid (Ans x ok ys) := hans
    clear hb2 hans
    cases ok
    · go_wp2_with fail
      go_ret2
      exact ReadR.mk none 0 0 [] [] false (seqOwn_nil _) List.nodup_nil (by simp) (reads_wrong hr'.out (not_okP hans'.out)) hb2'.out
    · go_wp2_with fail
      go_ret2
      exact ReadR.mk _ _ _ x fs true hto2.out hnd'.out hlo'.out (reads_of hr'.out ⟨ys, hans'.out⟩) hb2'.out
/-- cut at the first such byte -/
def CutAt (d : UInt8) (s a r : ByteArray) (b : Bool) : Prop := (b = true ∧ s.data.toList = a.data.toList ++ d :: r.data.toList ∧ ∀ c ∈ a.data.toList, c ≠ d) ∨ (b = false ∧ a = s ∧ r = ⟨#[]⟩ ∧ ∀ c ∈ s.data.toList, c ≠ d)
def CutR (d : UInt8) (s : ByteArray) (e : Ending) : Prop := ∃ (a r : ByteArray) (b : Bool), e = .returned (.tuple #[.string a, .string r, .bool b]) ∧ CutAt d s a r b
theorem CutR.mk {d : UInt8} {s a r : ByteArray} {b : Bool} (h : CutAt d s a r b) : CutR d s (.returned (.tuple #[.string a, .string r, .bool b])) := ⟨a, r, b, rfl, h⟩
theorem ext_to (s : ByteArray) (k : Nat) : (s.extract 0 k).data.toList = s.data.toList.take k := by rw [bd_mid]; simp
theorem ext_from (s : ByteArray) (k : Nat) : (s.extract k s.size).data.toList = rest s k := by
  rw [bd_mid, List.take_of_length_le (by rw [List.length_drop, bd_len]; omega)]
set_option maxHeartbeats 2000000 in
theorem l1Cut_any {w : World} {s : ByteArray} (d : UInt8) (z : Int) (hz : z = (d.toNat : Int)) (hs : s.size ≤ 1048576) :
    Calls Tryd.prog 24 #[.string s, .int .u8 z] w fun e w' => CutR d s e ∧ ∃ n, w' = w.drewN n := by
  have hsz : (s.size : Int) ≤ 1048576 := by omega
  have hz' : Hid (z = (d.toNat : Int)) := hz
  clear hz
  go_enter Tryd.func24, Tryd.ntmps24
  go_wp2_with fail
  go_loop [7] (fun i => ∃ k : Nat, k ≤ s.size ∧ i = .int .i64 k ∧ Hid (∀ c ∈ s.data.toList.take k, c ≠ d)) (fun i => s.size - (intOf i).toNat)
  case atStart => exact ⟨0, Nat.zero_le _, rfl, by show ∀ c ∈ _, _; simp⟩
  case round =>
    obtain ⟨k, hk, rfl, hall⟩ := hrel
    by_cases hlt : k < s.size
    · by_cases he : (s[k].toNat : Int) = z
      · have hsl1 : ∀ w, (Instr.slice 9 (.string s) none (some (.int .i64 (k : Int))) none).run Tryd.prog w = .ok (.string (s.extract 0 k)) w := fun w => sl_to s k hk w
        have hsl2 : ∀ w, (Instr.slice 9 (.string s) (some (.int .i64 ((k : Int) + 1))) none none).run Tryd.prog w = .ok (.string (s.extract (k + 1) s.size)) w := fun w => by have := sl_from s (k + 1) hlt w; simpa using this
        have hcut : Hid (CutAt d s (s.extract 0 k) (s.extract (k + 1) s.size) true) := by
          refine Or.inl ⟨rfl, ?_, ?_⟩
          · rw [ext_to, ext_from]
            have e1 := rest_app (s := s) (p := 0) (n := k)
            have e2 : rest s 0 = s.data.toList := by simp [rest]
            rw [Nat.zero_add, e2, rest_cons hlt] at e1
            have e3 : s[k] = d := by apply UInt8.toNat_inj.1; have := hz'.out; omega
            rw [e3] at e1; exact e1
          · rw [ext_to]; exact hall.out
        subst he
        go_wp2_with fail
        go_quiet (fail)
        go_wp2_with fail
        go_ret3
        exact ⟨CutR.mk hcut.out, nq, rfl⟩
      · have hne : Hid (∀ c ∈ s.data.toList.take (k + 1), c ≠ d) := by
          intro c hc
          rw [take_snoc s k hlt] at hc
          rcases List.mem_append.1 hc with h | h
          · exact hall.out c h
          · simp at h; rw [h]; intro e; apply he; rw [e]; exact hz'.out.symm
        have he2 : ((s[k].toNat : Int) == z) = false := by simpa using he
        go_wp2_with fail
        go_round
        case rel => exact ⟨k + 1, by omega, by go_num, hne⟩
        case measure => simp [intOf]; omega
    · have hend : Hid (∀ c ∈ s.data.toList, c ≠ d) := by have := hall.out; rwa [List.take_of_length_le (by rw [bd_len]; omega)] at this
      go_wp2_with fail
      go_ret3
      have hc : CutAt d s s ⟨#[]⟩ false := Or.inr ⟨rfl, rfl, rfl, hend.out⟩
      exact ⟨CutR.mk hc, 0, rfl⟩
end Go.Proofs.YtdapgihghbmlfaaDoor
