/- ReadProg of the program; texts cut at a byte; numbers as the specification reads them: walked. -/
import Derived.Test.YtdapgihghbmlfaaGreatDoorRWhole
import Derived.Test.YtdapgihghbmlfaaGreatDoorVmDepI
namespace Go.Proofs.YtdapgihghbmlfaaGreatDoor
open Go.RowKit Go.Deep
theorem reads_of {s : ByteArray} {x : List InstrD} (h : RdW s x true) (hs : OkP x) : ReadsP s x true := by
  rcases h with ⟨_, _, h⟩ | ⟨h, _⟩
  · refine Or.inl ⟨rfl, hs, ?_⟩
    have := rdProg_sound h
    rw [List.append_nil] at this; exact this
  · cases h
theorem text_fits {s : ByteArray} {l : List InstrD} (h : OkP l) (e : s.data.toList = textP l) : s.size ≤ 278 := by
  have := textP_small h
  rw [← e, bd_len] at this; exact this
theorem reads_none {s : ByteArray} {x : List InstrD} (h : RdW s x false) : ReadsP s [] false := by
  rcases h with ⟨h, _⟩ | ⟨_, _, h⟩
  · cases h
  · exact Or.inr ⟨rfl, rfl, fun l' h1 h2 => h (text_fits h1 h2) l' (by rw [h2]; exact rdProg_of h1.parts.1 h1.parts.2.2)⟩
theorem reads_wrong {s : ByteArray} {x : List InstrD} (h : RdW s x true) (hs : ¬ OkP x) : ReadsP s [] false := by
  rcases h with ⟨_, _, h⟩ | ⟨h, _⟩
  · refine Or.inr ⟨rfl, rfl, fun l' h1 h2 => ?_⟩
    rw [h2, rdProg_of h1.parts.1 h1.parts.2.2] at h
    simp only [Option.some.injEq, Prod.mk.injEq] at h
    rw [← h.1] at hs; exact hs h1
  · cases h
theorem not_okP {l : List InstrD} {ys : List Int} (h : Ans l false ys) : ¬ OkP l := fun ⟨zs, q⟩ => by have := (ans_same h q).1; cases this
def ReadR (s : ByteArray) (w : World) (e : Ending) (w' : World) : Prop := ∃ (b3 : Option Addr) (l3 c3 : Nat) (x : List InstrD) (fs : List Nat) (b : Bool), e = .returned (.tuple #[.slice b3 l3 c3, .bool b]) ∧ SeqOwn 3 InstrOwn w' (.slice b3 l3 c3) x fs ∧ fs.Nodup ∧ (∀ b ∈ fs, w.heap.size ≤ b) ∧ ReadsP s x b ∧ Below w.heap.size w w'
theorem ReadR.mk {s : ByteArray} {w w' : World} (b3 : Option Addr) (l3 c3 : Nat) (x : List InstrD) (fs : List Nat) (b : Bool) (h1 : SeqOwn 3 InstrOwn w' (.slice b3 l3 c3) x fs) (h2 : fs.Nodup) (h3 : ∀ b ∈ fs, w.heap.size ≤ b) (h4 : ReadsP s x b) (h5 : Below w.heap.size w w') : ReadR s w (.returned (.tuple #[.slice b3 l3 c3, .bool b])) w' := ⟨b3, l3, c3, x, fs, b, rfl, h1, h2, h3, h4, h5⟩
set_option maxRecDepth 100000 in
set_option maxHeartbeats 2000000 in
theorem implReadProg_any {w : World} {s : ByteArray} (hs : s.size ≤ 1048576) (hT : Tb w) :
    Calls Tryz.prog 7 #[.string s] w fun e w' => ReadR s w e w' := by
  have hT' : Hid (Tb w) := hT
  clear hT
  go_enter Tryz.func7, Tryz.ntmps7
  go_wp2_with fail
  refine (readWhole_any hs hT'.out).mono ?_
  rintro e w1 ⟨b3, l3, c3, x, fs, b, rfl, hto, hnd, hlo, hr, hb1⟩
  have hto' : Hid (SeqOwn 3 InstrOwn w1 (.slice b3 l3 c3) x fs) := hto
  have hnd' : Hid fs.Nodup := hnd
  have hlo' : Hid (∀ b ∈ fs, w.heap.size ≤ b) := hlo
  have hr' : Hid (RdW s x b) := hr
  have hb1' : Hid (Below w.heap.size w w1) := hb1
  have hF1 : Hid (Forms w1) := (hT'.out.below hb1 hT'.out.lt).1
  clear hto hnd hlo hr hb1
  cases b
  · go_wp2_with fail
    go_ret2
    exact ReadR.mk none 0 0 [] [] false (seqOwn_nil _) List.nodup_nil (by simp) (reads_none hr'.out) hb1'.out
  · go_wp2_with fail
    refine (implProgOk_any (lo := 0) (hto'.out.at InstrOwn_at (fun _ _ => Nat.zero_le _)) hF1.out).mono ?_
    rintro e w2 ⟨⟨ok, ys, rfl, hans⟩, hb2⟩
    have hb2' : Hid (Below w.heap.size w w2) := hb1'.out.trans (hb2.mono hb1'.out.size)
    have hto2 : Hid (SeqOwn 3 InstrOwn w2 (.slice b3 l3 c3) x fs) := hto'.out.stays InstrOwn_stays (fun b q => hb2.block b (hto'.out.lt InstrOwn_lt b q))
    have hans' : Hid (Ans x ok ys) := hans
    clear hb2 hans
    cases ok
    · go_wp2_with fail
      go_ret2
      exact ReadR.mk none 0 0 [] [] false (seqOwn_nil _) List.nodup_nil (by simp) (reads_wrong hr'.out (not_okP hans'.out)) hb2'.out
    · go_wp2_with fail
      go_ret2
      exact ReadR.mk _ _ _ x fs true hto2.out hnd'.out hlo'.out (reads_of hr'.out ⟨ys, hans'.out⟩) hb2'.out
/-- cut at the first such byte -/
def CutAt (d : UInt8) (s a r : ByteArray) (b : Bool) : Prop := (b = true ∧ s.data.toList = a.data.toList ++ d :: r.data.toList ∧ ∀ c ∈ a.data.toList, c ≠ d) ∨ (b = false ∧ a = s ∧ r = ⟨#[]⟩ ∧ ∀ c ∈ s.data.toList, c ≠ d)
def CutR (d : UInt8) (s : ByteArray) (e : Ending) : Prop := ∃ (a r : ByteArray) (b : Bool), e = .returned (.tuple #[.string a, .string r, .bool b]) ∧ CutAt d s a r b
theorem CutR.mk {d : UInt8} {s a r : ByteArray} {b : Bool} (h : CutAt d s a r b) : CutR d s (.returned (.tuple #[.string a, .string r, .bool b])) := ⟨a, r, b, rfl, h⟩
theorem ext_to (s : ByteArray) (k : Nat) : (s.extract 0 k).data.toList = s.data.toList.take k := by rw [bd_mid]; simp
theorem ext_from (s : ByteArray) (k : Nat) : (s.extract k s.size).data.toList = rest s k := by
  rw [bd_mid, List.take_of_length_le (by rw [List.length_drop, bd_len]; omega)]
set_option maxHeartbeats 2000000 in
theorem l1Cut_any {w : World} {s : ByteArray} (d : UInt8) (z : Int) (hz : z = (d.toNat : Int)) (hs : s.size ≤ 1048576) :
    Calls Tryz.prog 27 #[.string s, .int .u8 z] w fun e w' => CutR d s e ∧ ∃ n, w' = w.drewN n := by
  have hsz : (s.size : Int) ≤ 1048576 := by omega
  have hz' : Hid (z = (d.toNat : Int)) := hz
  clear hz
  go_enter Tryz.func27, Tryz.ntmps27
  go_wp2_with fail
  go_loop [7] (fun i => ∃ k : Nat, k ≤ s.size ∧ i = .int .i64 k ∧ Hid (∀ c ∈ s.data.toList.take k, c ≠ d)) (fun i => s.size - (intOf i).toNat)
  case atStart => exact ⟨0, Nat.zero_le _, rfl, by show ∀ c ∈ _, _; simp⟩
  case round =>
    obtain ⟨k, hk, rfl, hall⟩ := hrel
    by_cases hlt : k < s.size
    · by_cases he : (s[k].toNat : Int) = z
      · have hsl1 : ∀ w, (Instr.slice 9 (.string s) none (some (.int .i64 (k : Int))) none).run Tryz.prog w = .ok (.string (s.extract 0 k)) w := fun w => sl_to s k hk w
        have hsl2 : ∀ w, (Instr.slice 9 (.string s) (some (.int .i64 ((k : Int) + 1))) none none).run Tryz.prog w = .ok (.string (s.extract (k + 1) s.size)) w := fun w => by have := sl_from s (k + 1) hlt w; simpa using this
        have hcut : Hid (CutAt d s (s.extract 0 k) (s.extract (k + 1) s.size) true) := by
          refine Or.inl ⟨rfl, ?_, ?_⟩
          · rw [ext_to, ext_from]
            have e1 := rest_app (s := s) (p := 0) (n := k)
            have e2 : rest s 0 = s.data.toList := by simp [rest]
            rw [Nat.zero_add, e2, rest_cons hlt] at e1
            have e3 : s[k] = d := by apply UInt8.toNat_inj.1; have := hz'.out; omega
            rw [e3] at e1; exact e1
          · rw [ext_to]; exact hall.out
        subst he
        go_wp2_with fail
        go_quiet (fail)
        go_wp2_with fail
        go_ret3
        exact ⟨CutR.mk hcut.out, nq, rfl⟩
      · have hne : Hid (∀ c ∈ s.data.toList.take (k + 1), c ≠ d) := by
          intro c hc
          rw [take_snoc s k hlt] at hc
          rcases List.mem_append.1 hc with h | h
          · exact hall.out c h
          · simp at h; rw [h]; intro e; apply he; rw [e]; exact hz'.out.symm
        have he2 : ((s[k].toNat : Int) == z) = false := by simpa using he
        go_wp2_with fail
        go_round
        case rel => exact ⟨k + 1, by omega, by go_num, hne⟩
        case measure => simp [intOf]; omega
    · have hend : Hid (∀ c ∈ s.data.toList, c ≠ d) := by have := hall.out; rwa [List.take_of_length_le (by rw [bd_len]; omega)] at this
      go_wp2_with fail
      go_ret3
      have hc : CutAt d s s ⟨#[]⟩ false := Or.inr ⟨rfl, rfl, rfl, hend.out⟩
      exact ⟨CutR.mk hc, 0, rfl⟩
end Go.Proofs.YtdapgihghbmlfaaGreatDoor
namespace Go.Proofs.YtdapgihghbmlfaaGreatDoor
open Go.RowKit Go.Deep
/-- what l13Int answers -/
def IntR (s : ByteArray) (e : Ending) : Prop := ∃ (n : Int) (b : Bool), e = .returned (.tuple #[.int .i64 n, .bool b]) ∧ (-10000000 < n ∧ n < 10000000) ∧ ∀ m : Int, -1000000 ≤ m → m ≤ 1000000 → s.data.toList = Lib.itoa m → n = m ∧ b = true
theorem IntR.no {s : ByteArray} (h : ∀ m : Int, -1000000 ≤ m → m ≤ 1000000 → s.data.toList = Lib.itoa m → False) : IntR s (.returned (.tuple #[.int .i64 0, .bool false])) :=
  ⟨0, false, rfl, ⟨by omega, by omega⟩, fun m h1 h2 h3 => (h m h1 h2 h3).elim⟩
/-- what stands behind the sign, if there is one -/
def IntS (s t : ByteArray) (neg : Bool) : Prop := ∀ m : Int, -1000000 ≤ m → m ≤ 1000000 → s.data.toList = Lib.itoa m → t.data.toList = Lib.decDigits m.natAbs ∧ ((neg = true ∧ m < 0) ∨ (neg = false ∧ 0 ≤ m))
theorem IntS.neg {s : ByteArray} (h1 : 1 < s.size) (h : s[0].toNat = 45) : IntS s (s.extract 1 s.size) true := by
  intro m _ _ e
  have e0 : s.data.toList = s[0] :: rest s 1 := by have := rest_cons (s := s) (q := 0) (by omega); simpa [rest] using this
  unfold Lib.itoa at e
  split at e
  · rename_i hm
    rw [e0] at e
    injection e with _ e
    exact ⟨by rw [ext_from]; exact e, Or.inl ⟨rfl, hm⟩⟩
  · have := digs_all m.toNat s[0] (by rw [← e, e0]; simp)
    omega
theorem IntS.plain {s : ByteArray} (h : ¬ (1 < s.size ∧ ∀ q : 0 < s.size, s[0].toNat = 45)) : IntS s s false := by
  intro m _ _ e
  have e' := e
  unfold Lib.itoa at e
  split at e
  · exfalso
    apply h
    have hl := congrArg List.length e
    rw [bd_len, List.length_cons] at hl
    have hd : 1 ≤ (Lib.decDigits m.natAbs).length := by rw [Lib.decDigits_length]; exact Lib.nDigits_pos _
    refine ⟨by omega, fun q => ?_⟩
    have e0 : s.data.toList = s[0] :: rest s 1 := by have := rest_cons (s := s) (q := 0) q; simpa [rest] using this
    rw [e0] at e
    injection e with e _
    rw [e]; rfl
  · rename_i hm
    exact ⟨by rw [e]; congr 1; omega, Or.inr ⟨rfl, by omega⟩⟩
theorem dec_head : ∀ (u : Nat) (c : UInt8) (r : List UInt8), Lib.decDigits u = c :: r → c.toNat = 48 → u = 0 := by
  intro u
  induction u using Nat.strongRecOn with
  | ind u ih =>
    intro c r e hc
    by_cases h : u < 10
    · rw [Lib.decDigits_one h] at e
      injection e with e _
      rw [← e] at hc
      have : (UInt8.ofNat (48 + u)).toNat = 48 + u := by simp [UInt8.toNat_ofNat']; omega
      omega
    · have e2 := decDigits_step (by omega : 10 ≤ u) []
      rw [List.append_nil, e] at e2
      cases hd : Lib.decDigits (u / 10) with
      | nil => exact absurd hd (dec_ne _)
      | cons d q =>
        rw [hd] at e2
        simp only [List.cons_append] at e2
        injection e2 with e2 _
        have := ih (u / 10) (by omega) d q hd (by rw [e2]; exact hc)
        omega
theorem IntS.len {s t : ByteArray} {neg : Bool} (h : IntS s t neg) (hl : t.size < 1 ∨ 7 < t.size) : ∀ m : Int, -1000000 ≤ m → m ≤ 1000000 → s.data.toList = Lib.itoa m → False := by
  intro m h1 h2 e
  have q := congrArg List.length (h m h1 h2 e).1
  rw [bd_len, Lib.decDigits_length] at q
  have := Lib.nDigits_pos m.natAbs
  have := nDigits_small7 (u := m.natAbs) (by omega)
  omega
theorem IntS.zero {s t : ByteArray} {neg : Bool} (h : IntS s t neg) (h0 : 0 < t.size) (hz : t[0].toNat = 48) (hb : 1 < t.size ∨ neg = true) : ∀ m : Int, -1000000 ≤ m → m ≤ 1000000 → s.data.toList = Lib.itoa m → False := by
  intro m h1 h2 e
  obtain ⟨q, r⟩ := h m h1 h2 e
  have e0 : t.data.toList = t[0] :: rest t 1 := by have := rest_cons (s := t) (q := 0) h0; simpa [rest] using this
  have hu := dec_head m.natAbs _ _ (by rw [← q]; exact e0) hz
  rcases hb with hb | hb
  · have q2 := congrArg List.length q
    rw [bd_len, Lib.decDigits_length, hu, Lib.nDigits_small (by omega)] at q2
    omega
  · rcases r with ⟨_, r⟩ | ⟨r, _⟩
    · omega
    · rw [hb] at r; cases r
theorem IntS.digit {s t : ByteArray} {neg : Bool} (h : IntS s t neg) {i : Nat} (hi : i < t.size) (hd : ¬ (48 ≤ t[i].toNat ∧ t[i].toNat ≤ 57)) : ∀ m : Int, -1000000 ≤ m → m ≤ 1000000 → s.data.toList = Lib.itoa m → False := by
  intro m h1 h2 e
  obtain ⟨q, _⟩ := h m h1 h2 e
  exact hd (digs_all m.natAbs t[i] (by rw [← q]; exact List.getElem_mem (l := t.data.toList) (by rw [bd_len]; exact hi)))
theorem IntS.done {s t : ByteArray} {neg : Bool} (h : IntS s t neg) {u : Nat} (hu : Lib.decFrom 0 t.data.toList = some u) : ∀ m : Int, -1000000 ≤ m → m ≤ 1000000 → s.data.toList = Lib.itoa m → (if neg = true then -(u : Int) else (u : Int)) = m := by
  intro m h1 h2 e
  obtain ⟨q, r⟩ := h m h1 h2 e
  rw [q] at hu
  have := (Lib.decNat_some (decNat_digits m.natAbs)).2
  rw [this] at hu
  injection hu with hu
  rcases r with ⟨r, q⟩ | ⟨r, q⟩
  · rw [r, if_pos rfl]; omega
  · rw [r, if_neg (by simp)]; omega
theorem IntR.yes {s t : ByteArray} {neg : Bool} (h : IntS s t neg) {u : Nat} (hu : Lib.decFrom 0 t.data.toList = some u) (hl : u < 10000000) {n : Int} (hn : n = if neg = true then -(u : Int) else (u : Int)) : IntR s (.returned (.tuple #[.int .i64 n, .bool true])) :=
  ⟨n, true, rfl, by rw [hn]; cases neg <;> simp <;> omega, fun m h1 h2 h3 => ⟨by rw [hn]; exact h.done hu m h1 h2 h3, rfl⟩⟩
theorem dec_bound {t : ByteArray} {k u : Nat} (h : Lib.decFrom 0 (t.data.toList.take k) = some u) (hk : k ≤ 7) : u < 10000000 := by
  have := Lib.decFrom_lt _ _ _ h
  rw [List.length_take] at this
  have h2 : 10 ^ (min k t.data.toList.length) ≤ 10 ^ 7 := Nat.pow_le_pow_right (by omega) (by omega)
  omega
theorem dec_more {t : ByteArray} {k u : Nat} (h : Lib.decFrom 0 (t.data.toList.take k) = some u) (hk : k < t.size) (hd : 48 ≤ t[k].toNat ∧ t[k].toNat ≤ 57) : Lib.decFrom 0 (t.data.toList.take (k + 1)) = some (u * 10 + (t[k].toNat - 48)) :=
  Lib.decFrom_take t.data.toList k 0 u t[k] _ h (by rw [List.getElem?_eq_getElem (by rw [bd_len]; exact hk)]; rfl) (by unfold Lib.digitVal; rw [if_pos hd])
set_option maxRecDepth 100000 in
set_option maxHeartbeats 4000000 in
theorem l13Int_any (s : ByteArray) (hs : s.size ≤ 1048576) (w : World) :
    Calls Tryz.prog 47 #[.string s] w fun e w' => IntR s e ∧ w' = w := by
  have hss : (s.size : Int) ≤ 1048576 := by omega
  by_cases hneg : 1 < s.size ∧ ∀ q : 0 < s.size, s[0].toNat = 45
  · obtain ⟨hs1, hs2⟩ := hneg
    have h45 : (s[0].toNat : Int) = 45 := by have := hs2 (by omega); omega
    have hS : Hid (IntS s (s.extract 1 s.size) true) := IntS.neg hs1 (hs2 (by omega))
    have hsl : ∀ w, (Instr.slice 9 (.string s) (some (.int .i64 1)) none none).run Tryz.prog w = .ok (.string (s.extract 1 s.size)) w := fun w => by have := sl_from s 1 (by omega) w; simpa using this
    have hts : (s.extract 1 s.size).size ≤ 1048576 := by simp; omega
    go_enter Tryz.func47, Tryz.ntmps47
    clear hs2
    go_upto_region 4 with fail
    generalize s.extract 1 s.size = t at hS hts ⊢
    clear hsl h45 hs1 hss
    have htt : (t.size : Int) ≤ 1048576 := by omega
    by_cases hl0 : (t.size : Int) < 1
    · clear hs
      have hno : Hid (IntR s (.returned (.tuple #[.int .i64 0, .bool false]))) := IntR.no (hS.out.len (Or.inl (by omega)))
      go_wp2_with fail
      go_ret2
      exact ⟨hno.out, rfl⟩
    by_cases hl7 : 7 < (t.size : Int)
    · clear hs
      have hno : Hid (IntR s (.returned (.tuple #[.int .i64 0, .bool false]))) := IntR.no (hS.out.len (Or.inr (by omega)))
      go_wp2_with fail
      go_ret2
      exact ⟨hno.out, rfl⟩
    have hp0 : 0 < t.size := by omega
    by_cases hz : ((t[0].toNat : Nat) : Int) = 48
    · by_cases h1 : 1 < (t.size : Int)
      · clear hs
        have hno : Hid (IntR s (.returned (.tuple #[.int .i64 0, .bool false]))) := IntR.no (hS.out.zero hp0 (by omega) (Or.inl (by omega)))
        go_wp2_with fail
        go_ret2
        exact ⟨hno.out, rfl⟩
      · clear hs
        have hno : Hid (IntR s (.returned (.tuple #[.int .i64 0, .bool false]))) := IntR.no (hS.out.zero hp0 (by omega) (Or.inr rfl))
        go_wp2_with fail
        go_ret2
        exact ⟨hno.out, rfl⟩
    · clear hs
      go_wp2_with fail
      go_loop [5, 6] (fun n i => ∃ (k u : Nat), k ≤ t.size ∧ i = .int .i64 k ∧ n = .int .i64 u ∧ Hid (Lib.decFrom 0 (t.data.toList.take k) = some u)) (fun _ i => t.size - (intOf i).toNat)
      case atStart => exact ⟨0, 0, Nat.zero_le _, rfl, rfl, rfl⟩
      case round =>
        obtain ⟨k, u, hk, rfl, rfl, hu⟩ := hrel
        have hub := dec_bound hu.out (by omega)
        have hub' : (u : Int) < 10000000 := by omega
        by_cases hlt : k < t.size
        · by_cases hd1 : ((t[k].toNat : Nat) : Int) < 48
          · have hno : Hid (IntR s (.returned (.tuple #[.int .i64 0, .bool false]))) := IntR.no (hS.out.digit hlt (by omega))
            go_wp2_with fail
            go_ret2
            exact ⟨hno.out, rfl⟩
          · by_cases hd2 : 57 < ((t[k].toNat : Nat) : Int)
            · have hno : Hid (IntR s (.returned (.tuple #[.int .i64 0, .bool false]))) := IntR.no (hS.out.digit hlt (by omega))
              go_wp2_with fail
              go_ret2
              exact ⟨hno.out, rfl⟩
            · have hm : Hid (Lib.decFrom 0 (t.data.toList.take (k + 1)) = some (u * 10 + (t[k].toNat - 48))) := dec_more hu.out hlt ⟨by omega, by omega⟩
              have hd1' : 48 ≤ ((t[k].toNat : Nat) : Int) := by omega
              have hd2' : ((t[k].toNat : Nat) : Int) ≤ 57 := by omega
              have hns : Hid (((u * 10 + (t[k].toNat - 48) : Nat) : Int) = (u : Int) * 10 + ((t[k].toNat : Int) - 48)) := by show _ = _; omega
              go_wp2_with fail
              go_round
              case rel => exact ⟨k + 1, _, by omega, by go_num, by rw [hns.out], hm⟩
              case measure => simp [intOf]; omega
        · have hall : Hid (Lib.decFrom 0 t.data.toList = some u) := by have := hu.out; rwa [List.take_of_length_le (by rw [bd_len]; omega)] at this
          have hyes : Hid (IntR s (.returned (.tuple #[.int .i64 (-(u : Int)), .bool true]))) := IntR.yes hS.out hall.out hub (by simp)
          go_wp2_with fail
          go_ret2
          exact ⟨hyes.out, rfl⟩
  · have hS : Hid (IntS s s false) := IntS.plain hneg
    have hb : ¬ (1 < (s.size : Int)) ∨ (1 < (s.size : Int) ∧ ∃ q : 0 < s.size, ¬ (s[0].toNat : Int) = 45) := by
      by_cases h1 : 1 < s.size
      · right
        refine ⟨by omega, by omega, fun e => hneg ⟨h1, fun _ => by omega⟩⟩
      · left; omega
    clear hneg
    rcases hb with h1 | ⟨h1, hq, h45⟩
    · go_enter Tryz.func47, Tryz.ntmps47
      go_upto_region 4 with fail
      clear h1
      by_cases hl0 : (s.size : Int) < 1
      · clear hs
        have hno : Hid (IntR s (.returned (.tuple #[.int .i64 0, .bool false]))) := IntR.no (hS.out.len (Or.inl (by omega)))
        go_wp2_with fail
        go_ret2
        exact ⟨hno.out, rfl⟩
      by_cases hl7 : 7 < (s.size : Int)
      · clear hs
        have hno : Hid (IntR s (.returned (.tuple #[.int .i64 0, .bool false]))) := IntR.no (hS.out.len (Or.inr (by omega)))
        go_wp2_with fail
        go_ret2
        exact ⟨hno.out, rfl⟩
      have hp0 : 0 < s.size := by omega
      by_cases hz : ((s[0].toNat : Nat) : Int) = 48
      · by_cases h1 : 1 < (s.size : Int)
        · clear hs
          have hno : Hid (IntR s (.returned (.tuple #[.int .i64 0, .bool false]))) := IntR.no (hS.out.zero hp0 (by omega) (Or.inl (by omega)))
          go_wp2_with fail
          go_ret2
          exact ⟨hno.out, rfl⟩
        · clear hs
          go_wp2_with fail
          go_loop [5, 6] (fun n i => ∃ (k u : Nat), k ≤ s.size ∧ i = .int .i64 k ∧ n = .int .i64 u ∧ Hid (Lib.decFrom 0 (s.data.toList.take k) = some u)) (fun _ i => s.size - (intOf i).toNat)
          case atStart => exact ⟨0, 0, Nat.zero_le _, rfl, rfl, rfl⟩
          case round =>
            obtain ⟨k, u, hk, rfl, rfl, hu⟩ := hrel
            have hub := dec_bound hu.out (by omega)
            have hub' : (u : Int) < 10000000 := by omega
            by_cases hlt : k < s.size
            · by_cases hd1 : ((s[k].toNat : Nat) : Int) < 48
              · have hno : Hid (IntR s (.returned (.tuple #[.int .i64 0, .bool false]))) := IntR.no (hS.out.digit hlt (by omega))
                go_wp2_with fail
                go_ret2
                exact ⟨hno.out, rfl⟩
              · by_cases hd2 : 57 < ((s[k].toNat : Nat) : Int)
                · have hno : Hid (IntR s (.returned (.tuple #[.int .i64 0, .bool false]))) := IntR.no (hS.out.digit hlt (by omega))
                  go_wp2_with fail
                  go_ret2
                  exact ⟨hno.out, rfl⟩
                · have hm : Hid (Lib.decFrom 0 (s.data.toList.take (k + 1)) = some (u * 10 + (s[k].toNat - 48))) := dec_more hu.out hlt ⟨by omega, by omega⟩
                  have hd1' : 48 ≤ ((s[k].toNat : Nat) : Int) := by omega
                  have hd2' : ((s[k].toNat : Nat) : Int) ≤ 57 := by omega
                  have hns : Hid (((u * 10 + (s[k].toNat - 48) : Nat) : Int) = (u : Int) * 10 + ((s[k].toNat : Int) - 48)) := by show _ = _; omega
                  go_wp2_with fail
                  go_round
                  case rel => exact ⟨k + 1, _, by omega, by go_num, by rw [hns.out], hm⟩
                  case measure => simp [intOf]; omega
            · have hall : Hid (Lib.decFrom 0 s.data.toList = some u) := by have := hu.out; rwa [List.take_of_length_le (by rw [bd_len]; omega)] at this
              have hyes : Hid (IntR s (.returned (.tuple #[.int .i64 ((u : Int)), .bool true]))) := IntR.yes hS.out hall.out hub (by simp)
              go_wp2_with fail
              go_ret2
              exact ⟨hyes.out, rfl⟩
      · clear hs
        go_wp2_with fail
        go_loop [5, 6] (fun n i => ∃ (k u : Nat), k ≤ s.size ∧ i = .int .i64 k ∧ n = .int .i64 u ∧ Hid (Lib.decFrom 0 (s.data.toList.take k) = some u)) (fun _ i => s.size - (intOf i).toNat)
        case atStart => exact ⟨0, 0, Nat.zero_le _, rfl, rfl, rfl⟩
        case round =>
          obtain ⟨k, u, hk, rfl, rfl, hu⟩ := hrel
          have hub := dec_bound hu.out (by omega)
          have hub' : (u : Int) < 10000000 := by omega
          by_cases hlt : k < s.size
          · by_cases hd1 : ((s[k].toNat : Nat) : Int) < 48
            · have hno : Hid (IntR s (.returned (.tuple #[.int .i64 0, .bool false]))) := IntR.no (hS.out.digit hlt (by omega))
              go_wp2_with fail
              go_ret2
              exact ⟨hno.out, rfl⟩
            · by_cases hd2 : 57 < ((s[k].toNat : Nat) : Int)
              · have hno : Hid (IntR s (.returned (.tuple #[.int .i64 0, .bool false]))) := IntR.no (hS.out.digit hlt (by omega))
                go_wp2_with fail
                go_ret2
                exact ⟨hno.out, rfl⟩
              · have hm : Hid (Lib.decFrom 0 (s.data.toList.take (k + 1)) = some (u * 10 + (s[k].toNat - 48))) := dec_more hu.out hlt ⟨by omega, by omega⟩
                have hd1' : 48 ≤ ((s[k].toNat : Nat) : Int) := by omega
                have hd2' : ((s[k].toNat : Nat) : Int) ≤ 57 := by omega
                have hns : Hid (((u * 10 + (s[k].toNat - 48) : Nat) : Int) = (u : Int) * 10 + ((s[k].toNat : Int) - 48)) := by show _ = _; omega
                go_wp2_with fail
                go_round
                case rel => exact ⟨k + 1, _, by omega, by go_num, by rw [hns.out], hm⟩
                case measure => simp [intOf]; omega
          · have hall : Hid (Lib.decFrom 0 s.data.toList = some u) := by have := hu.out; rwa [List.take_of_length_le (by rw [bd_len]; omega)] at this
            have hyes : Hid (IntR s (.returned (.tuple #[.int .i64 ((u : Int)), .bool true]))) := IntR.yes hS.out hall.out hub (by simp)
            go_wp2_with fail
            go_ret2
            exact ⟨hyes.out, rfl⟩
    · have h45b : ((s[0].toNat : Int) == 45) = false := by simpa using h45
      go_enter Tryz.func47, Tryz.ntmps47
      go_upto_region 4 with fail
      try rw [h45b]
      clear h45b h1 h45
      by_cases hl0 : (s.size : Int) < 1
      · clear hs
        have hno : Hid (IntR s (.returned (.tuple #[.int .i64 0, .bool false]))) := IntR.no (hS.out.len (Or.inl (by omega)))
        go_wp2_with fail
        go_ret2
        exact ⟨hno.out, rfl⟩
      by_cases hl7 : 7 < (s.size : Int)
      · clear hs
        have hno : Hid (IntR s (.returned (.tuple #[.int .i64 0, .bool false]))) := IntR.no (hS.out.len (Or.inr (by omega)))
        go_wp2_with fail
        go_ret2
        exact ⟨hno.out, rfl⟩
      have hp0 : 0 < s.size := by omega
      by_cases hz : ((s[0].toNat : Nat) : Int) = 48
      · by_cases h1 : 1 < (s.size : Int)
        · clear hs
          have hno : Hid (IntR s (.returned (.tuple #[.int .i64 0, .bool false]))) := IntR.no (hS.out.zero hp0 (by omega) (Or.inl (by omega)))
          go_wp2_with fail
          go_ret2
          exact ⟨hno.out, rfl⟩
        · clear hs
          go_wp2_with fail
          go_loop [5, 6] (fun n i => ∃ (k u : Nat), k ≤ s.size ∧ i = .int .i64 k ∧ n = .int .i64 u ∧ Hid (Lib.decFrom 0 (s.data.toList.take k) = some u)) (fun _ i => s.size - (intOf i).toNat)
          case atStart => exact ⟨0, 0, Nat.zero_le _, rfl, rfl, rfl⟩
          case round =>
            obtain ⟨k, u, hk, rfl, rfl, hu⟩ := hrel
            have hub := dec_bound hu.out (by omega)
            have hub' : (u : Int) < 10000000 := by omega
            by_cases hlt : k < s.size
            · by_cases hd1 : ((s[k].toNat : Nat) : Int) < 48
              · have hno : Hid (IntR s (.returned (.tuple #[.int .i64 0, .bool false]))) := IntR.no (hS.out.digit hlt (by omega))
                go_wp2_with fail
                go_ret2
                exact ⟨hno.out, rfl⟩
              · by_cases hd2 : 57 < ((s[k].toNat : Nat) : Int)
                · have hno : Hid (IntR s (.returned (.tuple #[.int .i64 0, .bool false]))) := IntR.no (hS.out.digit hlt (by omega))
                  go_wp2_with fail
                  go_ret2
                  exact ⟨hno.out, rfl⟩
                · have hm : Hid (Lib.decFrom 0 (s.data.toList.take (k + 1)) = some (u * 10 + (s[k].toNat - 48))) := dec_more hu.out hlt ⟨by omega, by omega⟩
                  have hd1' : 48 ≤ ((s[k].toNat : Nat) : Int) := by omega
                  have hd2' : ((s[k].toNat : Nat) : Int) ≤ 57 := by omega
                  have hns : Hid (((u * 10 + (s[k].toNat - 48) : Nat) : Int) = (u : Int) * 10 + ((s[k].toNat : Int) - 48)) := by show _ = _; omega
                  go_wp2_with fail
                  go_round
                  case rel => exact ⟨k + 1, _, by omega, by go_num, by rw [hns.out], hm⟩
                  case measure => simp [intOf]; omega
            · have hall : Hid (Lib.decFrom 0 s.data.toList = some u) := by have := hu.out; rwa [List.take_of_length_le (by rw [bd_len]; omega)] at this
              have hyes : Hid (IntR s (.returned (.tuple #[.int .i64 ((u : Int)), .bool true]))) := IntR.yes hS.out hall.out hub (by simp)
              go_wp2_with fail
              go_ret2
              exact ⟨hyes.out, rfl⟩
      · clear hs
        go_wp2_with fail
        go_loop [5, 6] (fun n i => ∃ (k u : Nat), k ≤ s.size ∧ i = .int .i64 k ∧ n = .int .i64 u ∧ Hid (Lib.decFrom 0 (s.data.toList.take k) = some u)) (fun _ i => s.size - (intOf i).toNat)
        case atStart => exact ⟨0, 0, Nat.zero_le _, rfl, rfl, rfl⟩
        case round =>
          obtain ⟨k, u, hk, rfl, rfl, hu⟩ := hrel
          have hub := dec_bound hu.out (by omega)
          have hub' : (u : Int) < 10000000 := by omega
          by_cases hlt : k < s.size
          · by_cases hd1 : ((s[k].toNat : Nat) : Int) < 48
            · have hno : Hid (IntR s (.returned (.tuple #[.int .i64 0, .bool false]))) := IntR.no (hS.out.digit hlt (by omega))
              go_wp2_with fail
              go_ret2
              exact ⟨hno.out, rfl⟩
            · by_cases hd2 : 57 < ((s[k].toNat : Nat) : Int)
              · have hno : Hid (IntR s (.returned (.tuple #[.int .i64 0, .bool false]))) := IntR.no (hS.out.digit hlt (by omega))
                go_wp2_with fail
                go_ret2
                exact ⟨hno.out, rfl⟩
              · have hm : Hid (Lib.decFrom 0 (s.data.toList.take (k + 1)) = some (u * 10 + (s[k].toNat - 48))) := dec_more hu.out hlt ⟨by omega, by omega⟩
                have hd1' : 48 ≤ ((s[k].toNat : Nat) : Int) := by omega
                have hd2' : ((s[k].toNat : Nat) : Int) ≤ 57 := by omega
                have hns : Hid (((u * 10 + (s[k].toNat - 48) : Nat) : Int) = (u : Int) * 10 + ((s[k].toNat : Int) - 48)) := by show _ = _; omega
                go_wp2_with fail
                go_round
                case rel => exact ⟨k + 1, _, by omega, by go_num, by rw [hns.out], hm⟩
                case measure => simp [intOf]; omega
          · have hall : Hid (Lib.decFrom 0 s.data.toList = some u) := by have := hu.out; rwa [List.take_of_length_le (by rw [bd_len]; omega)] at this
            have hyes : Hid (IntR s (.returned (.tuple #[.int .i64 ((u : Int)), .bool true]))) := IntR.yes hS.out hall.out hub (by simp)
            go_wp2_with fail
            go_ret2
            exact ⟨hyes.out, rfl⟩
end Go.Proofs.YtdapgihghbmlfaaGreatDoor
