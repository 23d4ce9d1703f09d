/- The marks of the laws: markText, walked. -/
import Derived.Test.YtnonfehmbabfhaaGreatOwnRows
import Derived.Test.YtnonfehmbabfhaaGreatRows
import Derived.Test.YtnonfehmbabfhaaGreatTakeLit
import Derived.WalkKit
import Derived.Laws.IdiomStrings
import Derived.Test.YtnonfehmbabfhaaGreatRecs
namespace Go.Proofs.YtnonfehmbabfhaaGreat
open Go.RowKit
def dig (k : Nat) : UInt8 := UInt8.ofNat (48 + k % 10)
def digF : Nat → Nat → List UInt8 → List UInt8
  | 0, _, acc => acc
  | n + 1, k, acc => if k = 0 then acc else digF n (k / 10) (dig k :: acc)
theorem digF_zero (n : Nat) (acc : List UInt8) : digF n 0 acc = acc := by cases n <;> simp [digF]
theorem digF_fuel : ∀ (n m k : Nat) (acc : List UInt8), k ≤ n → k ≤ m → digF n k acc = digF m k acc := by
  intro n
  induction n with
  | zero => intro m k acc h _; obtain rfl : k = 0 := Nat.le_zero.1 h; exact (digF_zero m acc).symm
  | succ n ih =>
    intro m k acc h h2
    by_cases e : k = 0
    · subst e; rw [digF_zero, digF_zero]
    · obtain ⟨m', rfl⟩ : ∃ m', m = m' + 1 := ⟨m - 1, by omega⟩
      rw [digF, digF, if_neg e, if_neg e]
      exact ih m' (k / 10) _ (by omega) (by omega)
theorem digF_step {k : Nat} (h : 0 < k) (acc : List UInt8) : digF k k acc = digF (k / 10) (k / 10) (dig k :: acc) := by
  obtain ⟨m, rfl⟩ : ∃ m, k = m + 1 := ⟨k - 1, by omega⟩
  rw [digF, if_neg (by omega)]
  exact digF_fuel _ _ _ _ (by omega) (by omega)
theorem digF_size : ∀ (n k : Nat) (acc : List UInt8), k ≤ n → (digF n k acc).length ≤ acc.length + k := by
  intro n
  induction n with
  | zero => intro k acc h; simp [digF]
  | succ n ih =>
    intro k acc h
    by_cases e : k = 0
    · subst e; rw [digF_zero]; omega
    · rw [digF, if_neg e]
      have := ih (k / 10) (dig k :: acc) (by omega)
      simp only [List.length_cons] at this
      omega
/-- the mark of a number -/
def markT (m : Int) : ByteArray := if m ≤ 0 then ⟨#[109, 48]⟩ else ⟨(109 :: digF m.toNat m.toNat []).toArray⟩
theorem markT_size {m : Int} (h : m ≤ 4611686018427387904) : (markT m).size ≤ maxLen := by
  unfold markT maxLen
  split
  · decide
  · have := digF_size m.toNat m.toNat [] (Nat.le_refl _)
    show (109 :: digF m.toNat m.toNat []).toArray.size ≤ _
    simp only [List.size_toArray, List.length_cons, List.length_nil] at this ⊢
    omega
set_option maxRecDepth 100000 in
set_option maxHeartbeats 800000 in
theorem markText_any {w : World} {m : Int} (h1 : m ≤ 4611686018427387904) :
    Calls Tryz.prog 79 #[.int .i64 m] w fun e w' => e = .returned (.string (markT m)) ∧ Below w.heap.size w w' := by
  by_cases h0 : m ≤ 0
  · have HF : Hid (markT m = ⟨#[109, 48]⟩) := by show _ = _; simp [markT, h0]
    go_enter Tryz.func79, Tryz.ntmps79
    go_wp2_with fail
    go_ret
    exact ⟨by rw [HF.out]; rfl, Below.refl _ _⟩
  have h0' : decide (m ≤ 0) = false := by simpa using h0
  have HF : Hid (markT m = ⟨(109 :: digF m.toNat m.toNat []).toArray⟩) := by show _ = _; simp [markT, h0]
  have hm0 : 0 < m := by omega
  clear h0
  go_enter Tryz.func79, Tryz.ntmps79
  go_wp2_with fail
  go_loopw [0, 3] (fun z s wr => ∃ (k : Int) (acc : List UInt8), z = .int .i64 k ∧ s = .string ⟨acc.toArray⟩ ∧ 0 ≤ k ∧ acc.length + k.toNat ≤ m.toNat ∧ Hid (Below w.heap.size w wr) ∧ Hid (digF m.toNat m.toNat [] = digF k.toNat k.toNat acc)) (fun z _ _ => (intOf z).toNat)
  case atStart => exact ⟨m, [], rfl, rfl, by omega, by simp, Below.refl _ _, rfl⟩
  case round =>
    obtain ⟨k, acc, rfl, rfl, hk0, hk, hbr, hrem⟩ := hrel
    by_cases hlt : 0 < k
    · have HS : Hid _ := digF_step (k := k.toNat) (by omega) acc
      have hdt : (dig k.toNat).toNat = 48 + k.toNat % 10 := by unfold dig; simp; omega
      have hmod : k.tmod 10 = k % 10 := Int.tmod_eq_emod_of_nonneg (by omega)
      have hdiv : k.tdiv 10 = k / 10 := Int.tdiv_eq_ediv_of_nonneg (by omega)
      have hd8 : ((dig k.toNat).toNat : Int) = 48 + k % 10 := by rw [hdt]; omega
      have hcv : (convert 149 9 (.slice (some ⟨wr.heap.size, 0, none⟩) 1 1)).run Tryz.prog (wr.alloc (.cells #[.int .u8 (48 + k % 10)] 5)) = .ok (.string ⟨#[dig k.toNat]⟩) (wr.alloc (.cells #[.int .u8 (48 + k % 10)] 5)) := by
        refine run_convert_bytes_back (P := Tryz.prog) _ 149 9 5 ⟨wr.heap.size, 0, none⟩ 1 [dig k.toNat] Tryz.underlying149 Tryz.underlying5 Tryz.underlying9 (fun j hj => ?_)
        obtain rfl : j = 0 := by simpa using hj
        rw [show (Addr.add ⟨wr.heap.size, 0, none⟩ 0 : Addr) = ⟨wr.heap.size, 0, none⟩ from rfl, List.getElem_cons_zero, hd8]
        exact (Box.new wr [.int .u8 (48 + k % 10)] 5).cell 0 rfl
      have hcat : ¬ 9223372036854775807 < (⟨#[dig k.toNat]⟩ : ByteArray).size + (⟨acc.toArray⟩ : ByteArray).size := by
        show ¬ 9223372036854775807 < 1 + acc.toArray.size
        simp only [List.size_toArray]; omega
      go_wp2_with fail
      have hcc : (⟨#[dig k.toNat]⟩ : ByteArray) ++ ⟨acc.toArray⟩ = ⟨(dig k.toNat :: acc).toArray⟩ := by
        rw [ByteArray.ext_iff, ByteArray.data_append]; simp
      have hdk : (k / 10).toNat = k.toNat / 10 := by omega
      go_roundw
      case rel => exact ⟨k / 10, dig k.toNat :: acc, rfl, by rw [hcc], by omega, by simp only [List.length_cons]; omega, hbr.out.alloc hbr.out.size _, by show _ = _; rw [hrem.out, HS.out, hdk]⟩
      case measure => simp only [intOf]; omega
    · have hp : decide (0 < k) = false := by simpa using hlt
      obtain rfl : k = 0 := by omega
      go_wp2_with fail
      go_ret
      exact ⟨by rw [HF.out, hrem.out, Int.toNat_zero, digF_zero]; rfl, hbr.out⟩
end Go.Proofs.YtnonfehmbabfhaaGreat
namespace Go.Proofs.YtnonfehmbabfhaaGreat
open Go.RowKit
def cntI (_ : Int) : Nat := 1
def mkI (_ : Int) (m : Int) : Int := m
def ListenerOwn (_ : World) (cs : List Value) (x : ListenerD) (fs : List Nat) : Prop :=
  cs = [.string x.vType, .bool x.vCapture, .bool x.vOnce, .int .i64 x.vStop, .string x.vName] ∧ x.vType.size ≤ maxLen ∧ InI x.vStop ∧ x.vName.size ≤ maxLen ∧ fs = []
theorem ListenerOwn_stays : OwnStays ListenerOwn := fun _ _ _ _ _ _ h => h
theorem ListenerOwn_lt : OwnLt ListenerOwn := by
  intro w cs x fs h b hb
  obtain ⟨_, _, _, _, rfl⟩ := h
  cases hb
theorem ListenerOwn_at {lo : Nat} (w : World) (cs : List Value) (x : ListenerD) (fs : List Nat) (h : ListenerOwn w cs x fs) (_ : ∀ b ∈ fs, lo ≤ b) : ListenerAt w lo cs x := by
  obtain ⟨e, r0, r1, r2, _⟩ := h
  exact ⟨e, r0, r1, r2, trivial⟩
def cntListener (_ : ListenerD) : Nat := 1 + 1 + 1 + 1 + 1
def mkListener (_ : ListenerD) (m : Int) : ListenerD := { vType := markT (m), vCapture := (m + 1) % 3 == 0, vOnce := (m + 1 + 1) % 3 == 0, vStop := m + 1 + 1 + 1, vName := markT (m + 1 + 1 + 1 + 1) }
def NodeOwn (w : World) (cs : List Value) (x : NodeD) (fs : List Nat) : Prop :=
  ∃ k3 k5 : Value, ∃ f3 f5 : List Nat, cs = [.int .i64 x.vId, .string x.vTag, .int .i64 x.vParent, k3, .int .i64 x.vWrapper, k5] ∧ SeqOwn 1 IntOwn w k3 x.vKids f3 ∧ SeqOwn 5 ListenerOwn w k5 x.vListeners f5 ∧ InI x.vId ∧ x.vTag.size ≤ maxLen ∧ InI x.vParent ∧ InI x.vWrapper ∧ fs = f3 ++ f5
theorem NodeOwn_stays : OwnStays NodeOwn := by
  intro w w' cs x fs q h
  obtain ⟨k3, k5, f3, f5, e, h3, h5, r0, r1, r2, r3, rfl⟩ := h
  exact ⟨k3, k5, f3, f5, e, h3.stays intOwn_stays (fun b hb => q b (List.mem_append_left _ hb)), h5.stays ListenerOwn_stays (fun b hb => q b (List.mem_append_right _ hb)), r0, r1, r2, r3, rfl⟩
theorem NodeOwn_lt : OwnLt NodeOwn := by
  intro w cs x fs h
  obtain ⟨k3, k5, f3, f5, e, h3, h5, r0, r1, r2, r3, rfl⟩ := h
  intro b hb
  simp only [List.mem_append] at hb
  rcases hb with hb | hb
  · exact h3.lt intOwn_lt b hb
  · exact h5.lt ListenerOwn_lt b hb
theorem NodeOwn_at {lo : Nat} (w : World) (cs : List Value) (x : NodeD) (fs : List Nat) (h : NodeOwn w cs x fs) (q : ∀ b ∈ fs, lo ≤ b) : NodeAt w lo cs x := by
  obtain ⟨k3, k5, f3, f5, e, h3, h5, r0, r1, r2, r3, rfl⟩ := h
  exact ⟨k3, k5, e, h3.at (intOwn_at (lo := lo)) (fun b hb => q b (List.mem_append_left _ hb)), h5.at (ListenerOwn_at (lo := lo)) (fun b hb => q b (List.mem_append_right _ hb)), r0, r1, r2, r3, trivial⟩
def cntNode (x : NodeD) : Nat := 1 + 1 + 1 + cntL cntI x.vKids + 1 + cntL cntListener x.vListeners
def mkNode (x : NodeD) (m : Int) : NodeD := { vId := m, vTag := markT (m + 1), vParent := m + 1 + 1, vKids := mkL cntI mkI x.vKids (m + 1 + 1 + 1), vWrapper := m + 1 + 1 + 1 + (cntL cntI x.vKids : Nat), vListeners := mkL cntListener mkListener x.vListeners (m + 1 + 1 + 1 + (cntL cntI x.vKids : Nat) + 1) }
def FieldOwn (_ : World) (cs : List Value) (x : FieldD) (fs : List Nat) : Prop :=
  cs = [.string x.vName, .int .i64 x.vObj] ∧ x.vName.size ≤ maxLen ∧ InI x.vObj ∧ fs = []
theorem FieldOwn_stays : OwnStays FieldOwn := fun _ _ _ _ _ _ h => h
theorem FieldOwn_lt : OwnLt FieldOwn := by
  intro w cs x fs h b hb
  obtain ⟨_, _, _, rfl⟩ := h
  cases hb
theorem FieldOwn_at {lo : Nat} (w : World) (cs : List Value) (x : FieldD) (fs : List Nat) (h : FieldOwn w cs x fs) (_ : ∀ b ∈ fs, lo ≤ b) : FieldAt w lo cs x := by
  obtain ⟨e, r0, r1, _⟩ := h
  exact ⟨e, r0, r1, trivial⟩
def cntField (_ : FieldD) : Nat := 1 + 1
def mkField (_ : FieldD) (m : Int) : FieldD := { vName := markT (m), vObj := m + 1 }
def ObjOwn (w : World) (cs : List Value) (x : ObjD) (fs : List Nat) : Prop :=
  ∃ k2 : Value, ∃ f2 : List Nat, cs = [.int .i64 x.vId, .int .i64 x.vNode, k2] ∧ SeqOwn 2 FieldOwn w k2 x.vFields f2 ∧ InI x.vId ∧ InI x.vNode ∧ fs = f2
theorem ObjOwn_stays : OwnStays ObjOwn := by
  intro w w' cs x fs q h
  obtain ⟨k2, f2, e, h2, r0, r1, rfl⟩ := h
  exact ⟨k2, _, e, h2.stays FieldOwn_stays (fun b hb => q b hb), r0, r1, rfl⟩
theorem ObjOwn_lt : OwnLt ObjOwn := by
  intro w cs x fs h
  obtain ⟨k2, f2, e, h2, r0, r1, rfl⟩ := h
  intro b hb
  exact h2.lt FieldOwn_lt b hb
theorem ObjOwn_at {lo : Nat} (w : World) (cs : List Value) (x : ObjD) (fs : List Nat) (h : ObjOwn w cs x fs) (q : ∀ b ∈ fs, lo ≤ b) : ObjAt w lo cs x := by
  obtain ⟨k2, f2, e, h2, r0, r1, rfl⟩ := h
  exact ⟨k2, e, h2.at (FieldOwn_at (lo := lo)) (fun b hb => q b hb), r0, r1, trivial⟩
def cntObj (x : ObjD) : Nat := 1 + 1 + cntL cntField x.vFields
def mkObj (x : ObjD) (m : Int) : ObjD := { vId := m, vNode := m + 1, vFields := mkL cntField mkField x.vFields (m + 1 + 1) }
def HeapOwn (w : World) (cs : List Value) (x : HeapD) (fs : List Nat) : Prop :=
  ∃ k2 k3 k4 : Value, ∃ f2 f3 f4 : List Nat, cs = [.int .i64 x.vNext, .int .i64 x.vDoc, k2, k3, k4] ∧ SeqOwn 6 NodeOwn w k2 x.vNodes f2 ∧ SeqOwn 3 ObjOwn w k3 x.vObjs f3 ∧ SeqOwn 2 FieldOwn w k4 x.vGlobals f4 ∧ InI x.vNext ∧ InI x.vDoc ∧ fs = f2 ++ f3 ++ f4
theorem HeapOwn_stays : OwnStays HeapOwn := by
  intro w w' cs x fs q h
  obtain ⟨k2, k3, k4, f2, f3, f4, e, h2, h3, h4, r0, r1, rfl⟩ := h
  exact ⟨k2, k3, k4, f2, f3, f4, e, h2.stays NodeOwn_stays (fun b hb => q b (List.mem_append_left _ (List.mem_append_left _ hb))), h3.stays ObjOwn_stays (fun b hb => q b (List.mem_append_left _ (List.mem_append_right _ hb))), h4.stays FieldOwn_stays (fun b hb => q b (List.mem_append_right _ hb)), r0, r1, rfl⟩
theorem HeapOwn_lt : OwnLt HeapOwn := by
  intro w cs x fs h
  obtain ⟨k2, k3, k4, f2, f3, f4, e, h2, h3, h4, r0, r1, rfl⟩ := h
  intro b hb
  simp only [List.mem_append] at hb
  rcases hb with (hb | hb) | hb
  · exact h2.lt NodeOwn_lt b hb
  · exact h3.lt ObjOwn_lt b hb
  · exact h4.lt FieldOwn_lt b hb
theorem HeapOwn_at {lo : Nat} (w : World) (cs : List Value) (x : HeapD) (fs : List Nat) (h : HeapOwn w cs x fs) (q : ∀ b ∈ fs, lo ≤ b) : HeapAt w lo cs x := by
  obtain ⟨k2, k3, k4, f2, f3, f4, e, h2, h3, h4, r0, r1, rfl⟩ := h
  exact ⟨k2, k3, k4, e, h2.at (NodeOwn_at (lo := lo)) (fun b hb => q b (List.mem_append_left _ (List.mem_append_left _ hb))), h3.at (ObjOwn_at (lo := lo)) (fun b hb => q b (List.mem_append_left _ (List.mem_append_right _ hb))), h4.at (FieldOwn_at (lo := lo)) (fun b hb => q b (List.mem_append_right _ hb)), r0, r1, trivial⟩
end Go.Proofs.YtnonfehmbabfhaaGreat
namespace Go.Proofs.YtnonfehmbabfhaaGreat
open Go.RowKit
theorem pos_most {α : Type} {cnt : α → Nat} {xs : List α} {B : Nat} (h : ∀ i, (hi : i < xs.length) → cnt xs[i] ≤ B) : ∀ j, j ≤ xs.length → pos cnt xs j ≤ j * B := by
  intro j
  induction j with
  | zero => intro _; simp [pos_zero]
  | succ j ih =>
    intro hj
    rw [pos_succ (by omega)]
    have h1 := ih (by omega)
    have h2 := h j (by omega)
    rw [Nat.add_mul, Nat.one_mul]
    omega
theorem cntL_most {α : Type} {cnt : α → Nat} {xs : List α} {B : Nat} (hl : xs.length ≤ 1048576) (h : ∀ i, (hi : i < xs.length) → cnt xs[i] ≤ B) : cntL cnt xs ≤ 1048576 * B := by
  have h1 := pos_most h xs.length (Nat.le_refl _)
  have h2 := Nat.mul_le_mul_right B hl
  unfold cntL
  omega
theorem cntL_int (xs : List Int) : cntL cntI xs = xs.length := by
  unfold cntL
  have : ∀ j, j ≤ xs.length → pos cntI xs j = j := by
    intro j
    induction j with
    | zero => intro _; exact pos_zero _ _
    | succ j ih => intro hj; rw [pos_succ (by omega), ih (by omega)]; rfl
  exact this _ (Nat.le_refl _)
theorem cntHeap_le {h : HeapD} (hs : h.small) : (1 : Int) + (cntL cntNode h.vNodes : Nat) + (cntL cntObj h.vObjs : Nat) + (cntL cntField h.vGlobals : Nat) ≤ 4611686018427387904 := by
  obtain ⟨hn, ho, hg, _⟩ := hs
  have h1 : cntL cntNode h.vNodes ≤ 1048576 * (1048576 * 8) := cntL_most hn.1 fun i hi => by
    obtain ⟨_, hk, hl, _⟩ := hn.2 i hi
    have k1 : cntL cntI h.vNodes[i].vKids ≤ 1048576 := by rw [cntL_int]; exact hk
    have k2 : cntL cntListener h.vNodes[i].vListeners ≤ 1048576 * 5 := cntL_most hl.1 fun j hj => Nat.le_refl _
    unfold cntNode
    omega
  have h2 : cntL cntObj h.vObjs ≤ 1048576 * (1048576 * 8) := cntL_most ho.1 fun i hi => by
    obtain ⟨hf, _⟩ := ho.2 i hi
    have k2 : cntL cntField h.vObjs[i].vFields ≤ 1048576 * 2 := cntL_most hf.1 fun j hj => Nat.le_refl _
    unfold cntObj
    omega
  have h3 : cntL cntField h.vGlobals ≤ 1048576 * 2 := cntL_most hg.1 fun j hj => Nat.le_refl _
  omega
end Go.Proofs.YtnonfehmbabfhaaGreat
