/- What instrText of the program, and l1Dec, l13Dec, l13Words of the specification return. -/
import Derived.Test.YtdapgihghbmlfaaGreatDoorVmText
import Derived.Test.YtdapgihghbmlfaaGreatDoorVmInstr
import Derived.Test.YtdapgihghbmlfaaGreatDoorShelfFmt
import Derived.Test.YtdapgihghbmlfaaGreatDoorTakeLit
import Derived.Laws.Cover1
import Derived.Deep.RegionHeld3
namespace Go.Proofs.YtdapgihghbmlfaaGreatDoor
open Go.RowKit
theorem gPows : Tryz.prog.globalNamed "internal/strconv.uint64pow10" = some 1 := by kernel_rfl
theorem Pows.keep {w w' : World} (h : Pows w) (hb : w'.heap[1]? = w.heap[1]?) : Pows w' := by
  unfold Pows Lib.TabIs World.var? at h ⊢
  rw [gPows] at h ⊢
  simp only [Option.bind_some] at h ⊢
  rw [hb]; exact h
theorem Pows.lt {w : World} (h : Pows w) : 1 < w.heap.size := by
  rcases Nat.lt_or_ge 1 w.heap.size with q | q
  · exact q
  · unfold Pows Lib.TabIs World.var? at h
    rw [gPows] at h
    simp only [Option.bind_some] at h
    rw [Array.getElem?_eq_none q] at h
    cases h
theorem Pows.below {w w' : World} {n : Nat} (h : Pows w) (hb : Below n w w') (hn : 1 < n) : Pows w' := h.keep (hb.block 1 hn)
set_option maxRecDepth 100000 in
set_option maxHeartbeats 2000000 in
theorem instrText_any {w : World} {x : InstrD} (hr : instrB x = true) (hf : Forms w) (hp : Pows w) :
    Calls Tryz.prog 14 #[.agg #[.int .i64 x.vKind, .int .i64 x.vN, .string x.vName]] w fun e w' => e = .returned (.string (instrT x)) ∧ Below w.heap.size w w' := by
  have hf' : Hid (Forms w) := hf
  have hp' : Hid (Pows w) := hp
  have hk := instrB_kind hr
  have hn' : Hid (-1000000 ≤ x.vN ∧ x.vN ≤ 1000000) := instrB_num hr
  have hnm := instrB_nm hr
  have hws := wordT_small x.vKind
  have hds' : Hid ((decT x.vN).size ≤ 8) := decT_small (instrB_num hr).1 (instrB_num hr).2
  clear hf hr hp
  have bx0 : Hid (Box (w.alloc (.cells (List.toArray [.int .i64 x.vKind, .int .i64 x.vN, .string x.vName]) 34)) w.heap.size [.int .i64 x.vKind, .int .i64 x.vN, .string x.vName] 34) := Box.new w _ _
  have hb0 : Hid (Below w.heap.size w (w.alloc (.cells (List.toArray [.int .i64 x.vKind, .int .i64 x.vN, .string x.vName]) 34))) := (Below.refl _ _).alloc (Nat.le_refl _) _
  have HF := formV_is hk
  have HF' : Hid (formV x.vKind = _) := HF
  have hT0 : Hid (opT x.vKind = 0 → instrT x = wordT x.vKind) := instrT_none
  have hT3 : Hid (opT x.vKind = 3 → instrT x = wordT x.vKind ++ ⟨#[32]⟩ ++ x.vName) := instrT_name
  have hT1 : Hid (opT x.vKind = 1 ∨ opT x.vKind = 2 → instrT x = wordT x.vKind ++ ⟨#[32]⟩ ++ decT x.vN) := instrT_num
  have hor := opT_range x.vKind
  clear hk HF
  go_enter Tryz.func14, Tryz.ntmps14
  go_wp2_with fail
  refine (formOf_any _ _ (Forms.below hf'.out hb0.out (Forms.lt hf'.out))).mono ?_
  rintro e w1 ⟨rfl, hb1⟩
  rw [HF'.out]
  have bx1 : Hid (Box w1 w.heap.size [.int .i64 x.vKind, .int .i64 x.vN, .string x.vName] 34) := bx0.out.below hb1 bx0.out.lt
  have hB1 : Hid (Below w.heap.size w w1) := hb0.out.trans (hb1.mono hb0.out.size)
  clear hb1 bx0 hb0 HF' hf'
  generalize htk : takesT x.vKind = tk
  generalize hgv : givesT x.vKind = gv
  generalize hwd : wordT x.vKind = wd at hT0 hT1 hT3 hws
  generalize hop : opT x.vKind = op at hT0 hT1 hT3 hor
  generalize x.vKind = kd at bx1
  clear htk hgv hwd hop
  have c1 := bx1.out.cell 1 rfl
  have c2 := bx1.out.cell 2 rfl
  have hlt1 : w.heap.size < w1.heap.size := bx1.out.lt
  have hB2 : Hid (∀ ob, Below w.heap.size w (w1.alloc ob)) := fun ob => hB1.out.alloc hB1.out.size ob
  have hP2 : Hid (∀ ob, Pows (w1.alloc ob)) := fun ob => hp'.out.below (hB2.out ob) hp'.out.lt
  have d1 : ¬ 9223372036854775807 < wd.size + 1 := by omega
  have d2 : ¬ 9223372036854775807 < wd.size + 1 + x.vName.size := by omega
  rcases hor with rfl | hor | hor | rfl
  · have hT : Hid _ := hT0.out rfl
    clear hT0 hT1 hT3
    go_wp2_with fail
    go_ret
    exact ⟨by rw [hT.out]; rfl, hB2.out _⟩
  · subst hor
    have hT : Hid _ := hT1.out (Or.inl rfl)
    clear hT0 hT1 hT3
    have b2 : (w1.alloc (.cells (List.toArray [.int .i64 kd, .string wd, .int .i64 1, .int .i64 tk, .int .i64 gv]) 56)).cell? ⟨w1.heap.size, 1, none⟩ = some (.string wd) := (Box.new w1 [.int .i64 kd, .string wd, .int .i64 1, .int .i64 tk, .int .i64 gv] 56).cell 1 rfl
    have b1 : (w1.alloc (.cells (List.toArray [.int .i64 kd, .string wd, .int .i64 1, .int .i64 tk, .int .i64 gv]) 56)).cell? ⟨w.heap.size, 1, none⟩ = some (.int .i64 x.vN) := cell_on ((Below.refl _ _).alloc (Nat.le_refl _) _) c1
    have hBz : Hid (Below w.heap.size w (w1.alloc (.cells (List.toArray [.int .i64 kd, .string wd, .int .i64 1, .int .i64 tk, .int .i64 gv]) 56))) := hB2.out _
    have hPz : Hid (Pows (w1.alloc (.cells (List.toArray [.int .i64 kd, .string wd, .int .i64 1, .int .i64 tk, .int .i64 gv]) 56))) := hP2.out _
    clear hB2 hP2 c1 c2 bx1 hB1 hp'
    go_upto_region 7 with fail
    generalize w1.alloc (.cells (List.toArray [.int .i64 kd, .string wd, .int .i64 1, .int .i64 tk, .int .i64 gv]) 56) = wz at b1 b2 hBz hPz ⊢
    have b1' : wz.drew.cell? ⟨w.heap.size, 1, none⟩ = some (.int .i64 x.vN) := b1
    have b2' : wz.drew.cell? ⟨w1.heap.size, 1, none⟩ = some (.string wd) := b2
    have hBd : Hid (Below w.heap.size w wz.drew) := hBz.out.drew
    have hPd : Hid (Pows wz.drew) := hPz.out.keep rfl
    refine wp_region_held_drew (S := fun w' => w'.cell? ⟨w1.heap.size, 1, none⟩ = some (.string wd) ∧ w'.cell? ⟨w.heap.size, 1, none⟩ = some (.int .i64 x.vN)) (by kernel_rfl) ⟨b2', b1'⟩ (fun hHeld => ?_)
    refine tq (i := 0) (d := 25) ?_
    simp only [sz, ss]
    refine tq (i := 1) (d := 26) ?_
    simp only [sz, ss]
    refine tq (i := 2) (d := 27) ?_
    simp only [sz, ss]
    refine tq (i := 3) (d := 28) ?_
    simp only [sz, ss]
    refine tq (i := 4) (d := 29) ?_
    simp only [sz, ss]
    refine wpAnyH_ready (rs := [5]) (by kernel_rfl) (by simp) ?_
    refine AllReadyH.cons rfl (fun K hK => ?_) AllReadyH.nil
    go_simp
    refine (format_any x.vN (by have := hn'.out; omega) (by have := hn'.out; omega) _ hPd.out).mono ?_
    rintro e w2 ⟨rfl, hb1⟩
    have hB3 : Hid (Below w.heap.size w w2) := hBd.out.trans (hb1.mono hBd.out.size)
    have hds : (ByteArray.mk (Lib.itoa x.vN).toArray).size ≤ 8 := hds'.out
    have hTT : Hid (instrT x = wd ++ ⟨#[32]⟩ ++ ⟨(Lib.itoa x.vN).toArray⟩) := hT.out
    clear hT
    generalize (ByteArray.mk (Lib.itoa x.vN).toArray) = dz at hds hTT ⊢
    have e1 : ¬ 9223372036854775807 < wd.size + 1 + dz.size := by omega
    refine hK.out _ _ ⟨cell_on hb1 hHeld.1, cell_on hb1 hHeld.2⟩ (fun hHeld => ?_)
    clear hK K
    refine tq (i := 6) (d := 31) ?_
    simp only [sz, ss]
    refine tq (i := 7) (d := 2) ?_
    simp only [sz, ss]
    refine wpAnyH_done (by kernel_rfl) ?_ _
    go_wp2_with fail
    go_ret
    exact ⟨by rw [hTT.out]; rfl, hB3.out⟩
  · subst hor
    have hT : Hid _ := hT1.out (Or.inr rfl)
    clear hT0 hT1 hT3
    have b2 : (w1.alloc (.cells (List.toArray [.int .i64 kd, .string wd, .int .i64 2, .int .i64 tk, .int .i64 gv]) 56)).cell? ⟨w1.heap.size, 1, none⟩ = some (.string wd) := (Box.new w1 [.int .i64 kd, .string wd, .int .i64 2, .int .i64 tk, .int .i64 gv] 56).cell 1 rfl
    have b1 : (w1.alloc (.cells (List.toArray [.int .i64 kd, .string wd, .int .i64 2, .int .i64 tk, .int .i64 gv]) 56)).cell? ⟨w.heap.size, 1, none⟩ = some (.int .i64 x.vN) := cell_on ((Below.refl _ _).alloc (Nat.le_refl _) _) c1
    have hBz : Hid (Below w.heap.size w (w1.alloc (.cells (List.toArray [.int .i64 kd, .string wd, .int .i64 2, .int .i64 tk, .int .i64 gv]) 56))) := hB2.out _
    have hPz : Hid (Pows (w1.alloc (.cells (List.toArray [.int .i64 kd, .string wd, .int .i64 2, .int .i64 tk, .int .i64 gv]) 56))) := hP2.out _
    clear hB2 hP2 c1 c2 bx1 hB1 hp'
    go_upto_region 7 with fail
    generalize w1.alloc (.cells (List.toArray [.int .i64 kd, .string wd, .int .i64 2, .int .i64 tk, .int .i64 gv]) 56) = wz at b1 b2 hBz hPz ⊢
    have b1' : wz.drew.cell? ⟨w.heap.size, 1, none⟩ = some (.int .i64 x.vN) := b1
    have b2' : wz.drew.cell? ⟨w1.heap.size, 1, none⟩ = some (.string wd) := b2
    have hBd : Hid (Below w.heap.size w wz.drew) := hBz.out.drew
    have hPd : Hid (Pows wz.drew) := hPz.out.keep rfl
    refine wp_region_held_drew (S := fun w' => w'.cell? ⟨w1.heap.size, 1, none⟩ = some (.string wd) ∧ w'.cell? ⟨w.heap.size, 1, none⟩ = some (.int .i64 x.vN)) (by kernel_rfl) ⟨b2', b1'⟩ (fun hHeld => ?_)
    refine tq (i := 0) (d := 25) ?_
    simp only [sz, ss]
    refine tq (i := 1) (d := 26) ?_
    simp only [sz, ss]
    refine tq (i := 2) (d := 27) ?_
    simp only [sz, ss]
    refine tq (i := 3) (d := 28) ?_
    simp only [sz, ss]
    refine tq (i := 4) (d := 29) ?_
    simp only [sz, ss]
    refine wpAnyH_ready (rs := [5]) (by kernel_rfl) (by simp) ?_
    refine AllReadyH.cons rfl (fun K hK => ?_) AllReadyH.nil
    go_simp
    refine (format_any x.vN (by have := hn'.out; omega) (by have := hn'.out; omega) _ hPd.out).mono ?_
    rintro e w2 ⟨rfl, hb1⟩
    have hB3 : Hid (Below w.heap.size w w2) := hBd.out.trans (hb1.mono hBd.out.size)
    have hds : (ByteArray.mk (Lib.itoa x.vN).toArray).size ≤ 8 := hds'.out
    have hTT : Hid (instrT x = wd ++ ⟨#[32]⟩ ++ ⟨(Lib.itoa x.vN).toArray⟩) := hT.out
    clear hT
    generalize (ByteArray.mk (Lib.itoa x.vN).toArray) = dz at hds hTT ⊢
    have e1 : ¬ 9223372036854775807 < wd.size + 1 + dz.size := by omega
    refine hK.out _ _ ⟨cell_on hb1 hHeld.1, cell_on hb1 hHeld.2⟩ (fun hHeld => ?_)
    clear hK K
    refine tq (i := 6) (d := 31) ?_
    simp only [sz, ss]
    refine tq (i := 7) (d := 2) ?_
    simp only [sz, ss]
    refine wpAnyH_done (by kernel_rfl) ?_ _
    go_wp2_with fail
    go_ret
    exact ⟨by rw [hTT.out]; rfl, hB3.out⟩
  · have hT : Hid _ := hT3.out rfl
    clear hT0 hT1 hT3
    go_wp2_with fail
    go_ret
    exact ⟨by rw [hT.out]; rfl, hB2.out _⟩
/-- one digit -/
def digT (u : Nat) : ByteArray := ⟨#[UInt8.ofNat (48 + u)]⟩
theorem acc_small {u k : Nat} {a : ByteArray} (h : Lib.decDigits u = Lib.decDigits k ++ a.data.toList) (hu : u ≤ 1000000) : a.size ≤ 7 := by
  have h1 := congrArg List.length h
  rw [List.length_append, Lib.decDigits_length, stx_len] at h1
  have := nDigits_small7 hu
  omega
set_option maxRecDepth 100000 in
set_option maxHeartbeats 2000000 in
theorem l1Dec_any {w : World} {u : Nat} (hu : u ≤ 1000000) :
    Calls Tryz.prog 40 #[.int .i64 (u : Int)] w fun e w' => e = .returned (.string ⟨(Lib.decDigits u).toArray⟩) ∧ Below w.heap.size w w' := by
  go_enter Tryz.func40, Tryz.ntmps40
  go_wp2_with fail
  go_loopw [0, 3] (fun v i wr => ∃ (k : Nat) (acc : ByteArray), k ≤ u ∧ v = .int .i64 (k : Int) ∧ i = .string acc ∧ Hid (Lib.decDigits u = Lib.decDigits k ++ acc.data.toList) ∧ Hid (Below w.heap.size w wr)) (fun v _ _ => (intOf v).toNat)
  case atStart => exact ⟨u, _, Nat.le_refl _, rfl, rfl, by show _ = _; simp, Below.refl _ _⟩
  case round =>
    obtain ⟨k, acc, hk, rfl, rfl, hacc, hb⟩ := hrel
    have has := acc_small hacc.out hu
    by_cases hlt : 10 ≤ k
    · have hlt' : (10 : Int) ≤ (k : Int) := by omega
      have hcv : (convert 22 9 (.slice (some ⟨wr.heap.size, 0, none⟩) 1 1)).run Tryz.prog (wr.alloc (.cells (List.toArray [.int .u8 (48 + (k : Int) % 10)]) 5)) = .ok (.string (digT (k % 10))) (wr.alloc (.cells (List.toArray [.int .u8 (48 + (k : Int) % 10)]) 5)) := by
        refine run_convert_bytes_back (P := Tryz.prog) _ 22 9 5 ⟨wr.heap.size, 0, none⟩ 1 [UInt8.ofNat (48 + k % 10)] Tryz.underlying22 Tryz.underlying5 Tryz.underlying9 (fun j hj => ?_)
        obtain rfl : j = 0 := by simpa using hj
        rw [show (Addr.add ⟨wr.heap.size, 0, none⟩ 0 : Addr) = ⟨wr.heap.size, 0, none⟩ from rfl, List.getElem_cons_zero, show (((UInt8.ofNat (48 + k % 10)).toNat : Nat) : Int) = 48 + (k : Int) % 10 from by simp; omega]
        exact (Box.new wr [.int .u8 (48 + (k : Int) % 10)] 5).cell 0 rfl
      have hds : (digT (k % 10)).size = 1 := rfl
      have hstep : Hid (Lib.decDigits u = Lib.decDigits (k / 10) ++ (digT (k % 10) ++ acc).data.toList) := by
        show _ = _
        rw [stx_app, hacc.out]; exact (decDigits_step hlt _).symm
      have hB : Hid (∀ ob, Below w.heap.size w (wr.alloc ob)) := fun ob => hb.out.alloc hb.out.size ob
      clear hacc hb
      generalize digT (k % 10) = dz at hcv hds hstep
      have hcat : ¬ 9223372036854775807 < dz.size + acc.size := by omega
      go_wp2_with fail
      go_roundw
      case rel => exact ⟨k / 10, _, by omega, by go_num, rfl, hstep, hB.out _⟩
      case measure => simp only [intOf]; omega
    · have hlt' : ¬ (10 : Int) ≤ (k : Int) := by omega
      have hcv : (convert 22 9 (.slice (some ⟨wr.heap.size, 0, none⟩) 1 1)).run Tryz.prog (wr.alloc (.cells (List.toArray [.int .u8 (48 + (k : Int))]) 5)) = .ok (.string (digT k)) (wr.alloc (.cells (List.toArray [.int .u8 (48 + (k : Int))]) 5)) := by
        refine run_convert_bytes_back (P := Tryz.prog) _ 22 9 5 ⟨wr.heap.size, 0, none⟩ 1 [UInt8.ofNat (48 + k)] Tryz.underlying22 Tryz.underlying5 Tryz.underlying9 (fun j hj => ?_)
        obtain rfl : j = 0 := by simpa using hj
        rw [show (Addr.add ⟨wr.heap.size, 0, none⟩ 0 : Addr) = ⟨wr.heap.size, 0, none⟩ from rfl, List.getElem_cons_zero, show (((UInt8.ofNat (48 + k)).toNat : Nat) : Int) = 48 + (k : Int) from by simp; omega]
        exact (Box.new wr [.int .u8 (48 + (k : Int))] 5).cell 0 rfl
      have hds : (digT k).size = 1 := rfl
      have hfin : Hid (digT k ++ acc = ⟨(Lib.decDigits u).toArray⟩) := by
        show _ = _
        have e : (digT k ++ acc).data.toList = Lib.decDigits u := by rw [stx_app, hacc.out, Lib.decDigits_one (by omega)]; rfl
        rw [← e, Lib.mk_data]
      have hB : Hid (∀ ob, Below w.heap.size w (wr.alloc ob)) := fun ob => hb.out.alloc hb.out.size ob
      clear hacc hb
      generalize digT k = dz at hcv hds hfin
      have hcat : ¬ 9223372036854775807 < dz.size + acc.size := by omega
      go_wp2_with fail
      go_ret
      exact ⟨by rw [hfin.out]; rfl, hB.out _⟩
set_option maxHeartbeats 1000000 in
theorem l13Dec_any {w : World} {n : Int} (h0 : -1000000 ≤ n) (h1 : n ≤ 1000000) :
    Calls Tryz.prog 21 #[.int .i64 n] w fun e w' => e = .returned (.string (decT n)) ∧ Below w.heap.size w w' := by
  by_cases hn : n < 0
  · have hH : Hid (decT n = ⟨#[45]⟩ ++ ⟨(Lib.decDigits n.natAbs).toArray⟩) := by
      show _ = _
      rw [ByteArray.ext_iff, ByteArray.data_append]
      simp [decT, Lib.itoa, hn]
    have hz : -n = ((n.natAbs : Nat) : Int) := by omega
    have hs : (⟨(Lib.decDigits n.natAbs).toArray⟩ : ByteArray).size ≤ 7 := by
      show (Lib.decDigits n.natAbs).toArray.size ≤ 7
      rw [List.size_toArray, Lib.decDigits_length]; exact nDigits_small7 (by omega)
    have hu : Hid (n.natAbs ≤ 1000000) := by show _ ≤ _; omega
    go_enter Tryz.func21, Tryz.ntmps21
    go_wp2_with fail
    refine (l1Dec_any hu.out).mono ?_
    rintro e w1 ⟨rfl, hb1⟩
    generalize (⟨(Lib.decDigits n.natAbs).toArray⟩ : ByteArray) = dz at hs hH
    have hcat : ¬ 9223372036854775807 < 1 + dz.size := by omega
    go_wp2_with fail
    go_ret
    exact ⟨by rw [hH.out]; rfl, hb1⟩
  · obtain ⟨u, rfl⟩ : ∃ u : Nat, n = (u : Int) := ⟨n.toNat, by omega⟩
    have hH : Hid (decT (u : Int) = ⟨(Lib.decDigits u).toArray⟩) := by
      show _ = _
      simp [decT, Lib.itoa, hn]
    have hu : Hid (u ≤ 1000000) := by show _ ≤ _; omega
    go_enter Tryz.func21, Tryz.ntmps21
    go_wp2_with fail
    refine (l1Dec_any hu.out).mono ?_
    rintro e w1 ⟨rfl, hb1⟩
    go_wp2_with fail
    go_ret
    exact ⟨by rw [hH.out]; rfl, hb1⟩
end Go.Proofs.YtdapgihghbmlfaaGreatDoor
