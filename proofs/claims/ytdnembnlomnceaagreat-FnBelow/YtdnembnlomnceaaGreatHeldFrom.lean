/- What is held from some things, walked: the program's closure that calls itself. -/
import Derived.Test.YtdnembnlomnceaaGreatBelow
import Derived.Test.YtdnembnlomnceaaGreatImplOne
import Derived.LaidEqlPtr
import Derived.Laws.EntriesVeiled
import Derived.Shelf.SortG.SortNone
namespace Go.Proofs.YtdnembnlomnceaaGreat
open Go.RowKit
theorem infoTh : ((Tryz.prog.info? 65).map fun i => i.size) = some 4 := by kernel_rfl
/-- a thing lies there -/
def ThAt (w : World) (b : Nat) : Prop := ∃ cs : Array Value, w.heap[b]? = some (.cells cs 65 (0, 0))
theorem ptr_same (w : World) (b : Nat) : (binOp .eql 58 (.pointer (some ⟨b, 0, none⟩)) (.pointer (some ⟨b, 0, none⟩))).run Tryz.prog w = .ok (.bool true) w := by
 obtain ⟨j, hj, _⟩ := Option.map_eq_some_iff.1 infoTh
 exact run_eql_ptr_same w _ Tryz.underlying58 hj
theorem ptr_other {w : World} {a b : Nat} (ha : ThAt w a) (hb : ThAt w b) (hne : ¬ a = b) : (binOp .eql 58 (.pointer (some ⟨a, 0, none⟩)) (.pointer (some ⟨b, 0, none⟩))).run Tryz.prog w = .ok (.bool false) w := by
 obtain ⟨j, hj, hs⟩ := Option.map_eq_some_iff.1 infoTh
 obtain ⟨ca, ha⟩ := ha
 obtain ⟨cb, hb⟩ := hb
 exact run_eql_ptr_other w Tryz.underlying58 hj (by omega) (fun q => hne (by injection q)) ha hb
def blks (ps : List ThD) : List Int := ps.map fun t => (t.blk : Int)
set_option maxRecDepth 100000 in
set_option maxHeartbeats 800000 in
theorem slIndexP_any {w : World} {base : Nat} {v : Value} {ps : List ThD} {b : Nat} (hrow : w.ownsRow base 58 1 v ps.length (ps.map fun t => Value.pointer (some ⟨t.blk, 0, none⟩))) (hl : ps.length ≤ 1048576) (hps : ∀ u ∈ ps, ThAt w u.blk) (hb : ThAt w b) :
 Calls Tryz.prog 89 #[v, .pointer (some ⟨b, 0, none⟩)] w fun e w' => e = .returned (.int .i64 (findI (fun x => x) (blks ps) (b : Int) 0)) ∧ w' = w := by
 obtain ⟨av, cv, rfl⟩ := own_forms hrow
 have hrow' : Hid (w.ownsRow base 58 1 (.slice av ps.length cv) ps.length (ps.map fun t => Value.pointer (some ⟨t.blk, 0, none⟩))) := hrow
 have hbl : (blks ps).length = ps.length := by simp [blks]
 have hbl' : Hid _ := hbl
 have hps' : Hid (∀ u ∈ ps, ThAt w u.blk) := hps
 have hb' : Hid (ThAt w b) := hb
 clear hrow hbl hps hb
 go_enter Tryz.func89, Tryz.ntmps89
 go_wp2_with fail
 go_loop [8] (fun i => ∃ (j : Nat), j ≤ ps.length ∧ i = .int .i64 j ∧ Hid (findI (fun x => x) (blks ps) (b : Int) 0 = findI (fun x => x) ((blks ps).drop j) (b : Int) j)) (fun i => ps.length - (intOf i).toNat)
 case atStart => exact ⟨0, by omega, rfl, rfl⟩
 case round =>
  obtain ⟨j, hj, rfl, hrem⟩ := hrel
  by_cases hlt : j < ps.length
  · obtain ⟨g, rfl, z0⟩ := row_get hrow'.out hlt (x := .pointer (some ⟨ps[j].blk, 0, none⟩)) (by simp [hlt])
    have hget : (blks ps)[j]'(by rw [hbl'.out]; exact hlt) = (ps[j].blk : Int) := by simp [blks]
    by_cases hq : ps[j].blk = b
    · have H2 : Hid _ := findI_hit (f := fun x => x) (xs := blks ps) (id := (b : Int)) (j := j) (by rw [hbl'.out]; exact hlt) (by rw [hget, hq])
      rw [hq] at z0
      have heq := ptr_same w b
      clear hget hq
      go_wp2_with fail
      go_ret
      exact ⟨by rw [hrem.out, H2.out]; rfl, rfl⟩
    · have H2 : Hid _ := findI_miss (f := fun x => x) (xs := blks ps) (id := (b : Int)) (j := j) (by rw [hbl'.out]; exact hlt) (by rw [hget]; omega)
      have heq := ptr_other hb'.out (hps'.out ps[j] (List.getElem_mem hlt)) (fun e => hq e.symm)
      generalize ps[j].blk = X at z0 hq heq
      clear hget hq
      go_wp2_with fail
      go_round
      case rel => exact ⟨j + 1, by omega, by go_num, by show _ = _; rw [hrem.out, H2.out]⟩
      case measure => simp [intOf]; omega
  · have H2 : Hid _ := findI_end (f := fun x => x) (xs := blks ps) (id := (b : Int)) (j := j) (by rw [hbl'.out]; exact hlt)
    go_wp2_with fail
    go_ret
    exact ⟨by rw [hrem.out, H2.out]; rfl, rfl⟩
set_option maxHeartbeats 400000 in
theorem slContainsP_any {w : World} {base : Nat} {v : Value} {ps : List ThD} {b : Nat} (hrow : w.ownsRow base 58 1 v ps.length (ps.map fun t => Value.pointer (some ⟨t.blk, 0, none⟩))) (hl : ps.length ≤ 1048576) (hps : ∀ u ∈ ps, ThAt w u.blk) (hb : ThAt w b) :
 Calls Tryz.prog 62 #[v, .pointer (some ⟨b, 0, none⟩)] w fun e w' => e = .returned (.bool (hasB (blks ps) (b : Int))) ∧ w' = w := by
 have H1 : Hid _ := has_of_find (blks ps) (b : Int) 0
 obtain ⟨av, cv, rfl⟩ := own_forms hrow
 have hrow' : Hid (w.ownsRow base 58 1 (.slice av ps.length cv) ps.length (ps.map fun t => Value.pointer (some ⟨t.blk, 0, none⟩))) := hrow
 clear hrow
 go_enter Tryz.func62, Tryz.ntmps62
 go_wp2_with fail
 refine (slIndexP_any hrow'.out hl hps hb).mono ?_
 rintro e w1 ⟨rfl, rfl⟩
 go_wp2_with fail
 go_ret
 exact ⟨ret_bool H1.out, rfl⟩
/-- the list of all that is held so far, in its variable, and the closure in its own -/
def HS (w0 : World) (Ts : List ThD) (ba bf : Nat) (w : World) (all : List ThD) : Prop :=
 Below w0.heap.size w0 w ∧ (∃ v, Box w ba [v] 52 ∧ w.ownsRow (w0.heap.size + 2) 58 1 v all.length (all.map fun t => Value.pointer (some ⟨t.blk, 0, none⟩))) ∧ Box w bf [.func (.func 61) #[] #[.pointer (some ⟨ba, 0, none⟩), .pointer (some ⟨bf, 0, none⟩)]] 105 ∧ (∀ t ∈ all, t ∈ Ts) ∧ (all.map ThD.id).Nodup
theorem all_less {Ts all : List ThD} {t : ThD} (hn : (all.map ThD.id).Nodup) (hs : ∀ u ∈ all, u ∈ Ts) (ht : t ∈ Ts) (hno : t.id ∉ all.map ThD.id) : all.length < Ts.length := by
 have h1 : (t.id :: all.map ThD.id).Nodup := List.nodup_cons.2 ⟨hno, hn⟩
 have := nodup_len (t.id :: all.map ThD.id) (Ts.map ThD.id) h1 fun k hk => by
  rcases List.mem_cons.1 hk with e | e
  · subst e; exact List.mem_map_of_mem ht
  · obtain ⟨u, hu, rfl⟩ := List.mem_map.1 e
    exact List.mem_map_of_mem (hs u hu)
 simp only [List.length_cons, List.length_map] at this
 omega
theorem has_blk {o : ThD} {Ts all : List ThD} {t : ThD} (hA : Apart (o :: Ts)) (hs : ∀ u ∈ all, u ∈ Ts) (ht : t ∈ Ts) : hasB (blks all) (t.blk : Int) = true ↔ t.id ∈ all.map ThD.id := by
 rw [hasB_iff]
 constructor
 · intro h
   obtain ⟨u, hu, e⟩ := List.mem_map.1 h
   have : u = t := hA.2 u (List.mem_cons_of_mem _ (hs u hu)) t (List.mem_cons_of_mem _ ht) (by omega)
   subst this
   exact List.mem_map_of_mem hu
 · intro h
   obtain ⟨u, hu, e⟩ := List.mem_map.1 h
   have : u = t := hA.1 u (List.mem_cons_of_mem _ (hs u hu)) t (List.mem_cons_of_mem _ ht) e
   subst this
   exact List.mem_map_of_mem hu
/-- what one call adds -/
def Adds (E : Int → List Int) (t : Int) (all more : List ThD) : Prop := t ∈ (all ++ more).map ThD.id ∧ ∀ x ∈ more, RT E t x.id ∧ ∀ k ∈ E x.id, k ∈ (all ++ more).map ThD.id
def HeldIn (w0 : World) (E : Int → List Int) (Ts : List ThD) (ba bf m : Nat) : Prop := ∀ (w : World) (all : List ThD) (t : ThD), HS w0 Ts ba bf w all → t ∈ Ts → Ts.length - all.length ≤ m →
 Calls Tryz.prog 61 #[.pointer (some ⟨t.blk, 0, none⟩), .pointer (some ⟨ba, 0, none⟩), .pointer (some ⟨bf, 0, none⟩)] w fun e w' => e = .returned (.tuple #[]) ∧ ∃ more, HS w0 Ts ba bf w' (all ++ more) ∧ Adds E t.id all more
set_option maxRecDepth 100000 in
set_option maxHeartbeats 4000000 in
theorem held_step {w0 : World} {K : Nat → Prop} {base : Nat} {o : ThD} {Ts : List ThD} {acc : List (Int × Int)} {ba bf : Nat} (hA : Apart (o :: Ts)) (hG : GSt K base w0 o Ts acc) (hin : ∀ t ∈ Ts, ∀ k ∈ holdsC acc t.id, (getI ThD.id Ts k).isSome = true) (hTl : Ts.length ≤ 1048576) (hba : ba = w0.heap.size) (hbf : bf = w0.heap.size + 1) (hacc : acc.length ≤ 1099511627) {m : Nat} (ih : ∀ m', m' < m → HeldIn w0 (holdsC acc) Ts ba bf m') : HeldIn w0 (holdsC acc) Ts ba bf m := by
 intro w all t hS ht hm
 have hA' : Hid (Apart (o :: Ts)) := hA
 obtain ⟨S, hG⟩ := hG
 have hG' : Hid (GStS S K base w0 o Ts acc) := hG
 have hin' : Hid (∀ t ∈ Ts, ∀ k ∈ holdsC acc t.id, (getI ThD.id Ts k).isSome = true) := hin
 have ih' : Hid (∀ m', m' < m → HeldIn w0 (holdsC acc) Ts ba bf m') := ih
 have hS' : Hid (HS w0 Ts ba bf w all) := hS
 have ht' : Hid (t ∈ Ts) := ht
 have hba' : Hid (ba = w0.heap.size) := hba
 have hbf' : Hid (bf = w0.heap.size + 1) := hbf
 clear hba hbf
 obtain ⟨hB, ⟨v, bA, hrow⟩, bF, hsub, hnd⟩ := hS
 have hal : all.length ≤ Ts.length := by
  have q := nodup_len (all.map ThD.id) (Ts.map ThD.id) hnd (fun k hk => by obtain ⟨u, hu, rfl⟩ := List.mem_map.1 hk; exact List.mem_map_of_mem (hsub u hu))
  simpa using q
 have hrow' : Hid (w.ownsRow (w0.heap.size + 2) 58 1 v all.length (all.map fun t => Value.pointer (some ⟨t.blk, 0, none⟩))) := hrow
 obtain ⟨av, cv, rfl⟩ := own_forms hrow
 have bA' : Hid (Box w ba [.slice av all.length cv] 52) := bA
 have cA := bA.cell 0 rfl
 have hsub' : Hid (∀ u ∈ all, u ∈ Ts) := hsub
 have hnd' : Hid ((all.map ThD.id).Nodup) := hnd
 have hbl := has_blk hA hsub ht
 have hbl' : Hid _ := hbl
 have hth : ∀ u ∈ Ts, ThAt w u.blk := fun u hu => by
  have b1 := (hG.1 u (List.mem_cons_of_mem _ hu)).1
  exact ⟨_, b1.below hB b1.lt⟩
 have hthA : Hid (∀ u ∈ all, ThAt w u.blk) := fun u hu => hth u (hsub u hu)
 have hthB : Hid (ThAt w t.blk) := hth t ht
 clear hth
 obtain ⟨iP, hiP, heP⟩ := Option.map_eq_some_iff.1 infoPtr
 simp only [Prod.mk.injEq] at heP
 have hI : Hid _ := hiP
 have hE : Hid _ := heP
 clear hA hG hin ih bA bF hsub hnd hrow hbl hiP heP ht
 go_enter Tryz.func61, Tryz.ntmps61
 go_wp2_with fail
 refine (slContainsP_any (b := t.blk) hrow'.out (by omega) hthA.out hthB.out).mono ?_
 rintro e w1 ⟨rfl, hw⟩
 rw [hw]
 clear hw w1
 cases hhas : hasB (blks all) (t.blk : Int)
 rotate_left
 · have hmem : Hid (t.id ∈ all.map ThD.id) := hbl'.out.1 hhas
   clear hhas
   go_wp2_with fail
   refine bodyPost_ret (v := .tuple #[]) (results_none rfl _ _ _) rfl ?_
   refine ⟨rfl, [], by rw [List.append_nil]; exact hS'.out, by rw [List.append_nil]; exact hmem.out, fun x hx => (by cases hx)⟩
 have hno : Hid (t.id ∉ all.map ThD.id) := fun q => by rw [hbl'.out.2 q] at hhas; cases hhas
 have hless : Hid (all.length < Ts.length) := all_less hnd'.out hsub'.out ht'.out hno.out
 clear hhas
 have hrvb : Hid ((w.alloc (.cells #[.pointer (some ⟨t.blk, 0, none⟩)] 58)).ownsRow (w0.heap.size + 2) 58 1 (.slice av all.length cv) all.length (all.map fun t => Value.pointer (some ⟨t.blk, 0, none⟩))) := hrow'.out.alloc _
 have hBs := hB.size
 have hbaw : ba < w.heap.size := bA'.out.lt
 obtain ⟨L, hL⟩ : ∃ L, (all.map fun t => Value.pointer (some ⟨t.blk, 0, none⟩)) = L := ⟨_, rfl⟩
 rw [hL] at hrvb
 have hL' : Hid _ := hL
 clear hL
 go_wp2_with (at_builtin; refine wpList_append_lies _ rfl _ _ 52 rfl (w0.heap.size + 2) 58 iP (.pointer none) 1 8 Tryz.underlying52 hI.out hE.out.1 hE.out.2.2 hE.out.2.1 rfl (by decide) _ all.length L rfl hrvb.out ⟨w.heap.size, 0, none⟩ 1 1 [.pointer (some ⟨t.blk, 0, none⟩)] rfl rfl (by intro q u hq; match q, hq with | 0, hq => simp at hq; subst hq; simp [Addr.add]) (by simp [Value.oneCell']) (by decide) (by unfold maxLen; omega) (by omega) (by have := (hS'.out.2.2.1).lt; have := hbf'.out; simp; omega) (w.heap.size + 1) (by simp) ?_)
 intro g capg w1 hown1 hgrow1 hat1 hlt1
 have bA1 : Box w1 ba [.slice av all.length cv] 52 := (hgrow1.block _ (by simp; omega) (fun q => row_ne_box (hrow'.out) bA'.out (by decide) q.symm rfl)).trans (bA'.out.alloc _)
 have a0 := bA1.cell 0 rfl
 have af := bA1.unfrozen 0
 have bA2 : Hid (Box (w1.setCell ⟨ba, 0, none⟩ (.slice (some ⟨g, 0, none⟩) (all.length + 1) capg)) ba [.slice (some ⟨g, 0, none⟩) (all.length + 1) capg] 52) := bA1.set (i := 0) _
 have hB2 : Hid (Below w0.heap.size w0 (w1.setCell ⟨ba, 0, none⟩ (.slice (some ⟨g, 0, none⟩) (all.length + 1) capg))) := ((hB.alloc hBs _).grown hgrow1 (by simp; omega) (fun k e => by have := own_block hrow'.out k e; omega)).setCell (p := ⟨ba, 0, none⟩) (by show w0.heap.size ≤ ba; have := hba'.out; omega) _
 have bF2 : Hid (Box (w1.setCell ⟨ba, 0, none⟩ (.slice (some ⟨g, 0, none⟩) (all.length + 1) capg)) bf [.func (.func 61) #[] #[.pointer (some ⟨ba, 0, none⟩), .pointer (some ⟨bf, 0, none⟩)]] 105) := by
  have q : Box w1 bf [.func (.func 61) #[] #[.pointer (some ⟨ba, 0, none⟩), .pointer (some ⟨bf, 0, none⟩)]] 105 := (hgrow1.block _ (by have := hS'.out.2.2.1.lt; simp; omega) (fun q => row_ne_box (hrow'.out) hS'.out.2.2.1 (by decide) q.symm rfl)).trans (hS'.out.2.2.1.alloc _)
  exact q.other (by have := hba'.out; have := hbf'.out; omega) _
 have hr2 : Hid ((w1.setCell ⟨ba, 0, none⟩ (.slice (some ⟨g, 0, none⟩) (all.length + 1) capg)).ownsRow (w0.heap.size + 2) 58 1 (.slice (some ⟨g, 0, none⟩) (all.length + 1) capg) (all.length + 1) (L ++ [.pointer (some ⟨t.blk, 0, none⟩)])) := row_kept hown1 (KeepT.set bA1 (by decide) _)
 have hS2 : Hid (HS w0 Ts ba bf (w1.setCell ⟨ba, 0, none⟩ (.slice (some ⟨g, 0, none⟩) (all.length + 1) capg)) (all ++ [t])) := by
  refine ⟨hB2.out, ⟨_, bA2.out, ?_⟩, bF2.out, fun u hu => ?_, ?_⟩
  · rw [List.length_append, List.map_append, hL'.out]; exact hr2.out
  · rcases List.mem_append.1 hu with e | e
    · exact hsub'.out u e
    · simp at e; subst e; exact ht'.out
  · rw [List.map_append, List.nodup_append]
    refine ⟨hnd'.out, by simp, fun a ha b hb hab => ?_⟩
    simp at hb
    exact hno.out (by rw [← hb, ← hab]; exact ha)
 obtain ⟨WS, hWS⟩ : ∃ WS, w1.setCell ⟨ba, 0, none⟩ (.slice (some ⟨g, 0, none⟩) (all.length + 1) capg) = WS := ⟨_, rfl⟩
 have hSS : GStS S K base WS o Ts acc := by rw [← hWS]; exact hG'.out.below hB2.out
 rw [hWS] at hS2
 obtain ⟨hp1, hp2, _⟩ := hSS.1 t (List.mem_cons_of_mem _ ht'.out)
 obtain ⟨aS, capS, hform⟩ := own_forms hp2
 have c2 := hp1.cell 2 rfl
 rw [hform] at c2 hp2
 have hform' : Hid (S t.id = .slice aS (holdsC acc t.id).length capS) := hform
 have hks : ∀ k ∈ holdsC acc t.id, (getI ThD.id Ts k).isSome = true := hin'.out t ht'.out
 obtain ⟨m1, _⟩ := things_map hks
 have hrh : Hid (WS.ownsRow base 58 1 (.slice aS (holdsC acc t.id).length capS) (holdsC acc t.id).length ((holdsC acc t.id).map (ptrOf Ts))) := hp2
 have hhl : (holdsC acc t.id).length ≤ 1099511627 := by have := holdsC_len acc t.id; omega
 clear hown1 hgrow1 hat1 hlt1 bA1 hp1 hp2 hform hSS m1 hks bA2 hB2 bF2 hr2 hrvb
 go_wp2_with fail
 clear hWS a0 af
 go_loopw [18] (fun i wr => ∃ (j : Nat) (more : List ThD), j ≤ (holdsC acc t.id).length ∧ i = .int .i64 j ∧ Hid (HS w0 Ts ba bf wr (all ++ [t] ++ more)) ∧ Hid (∀ x ∈ more, RT (holdsC acc) t.id x.id ∧ ∀ k ∈ holdsC acc x.id, k ∈ (all ++ [t] ++ more).map ThD.id) ∧ Hid (∀ k ∈ (holdsC acc t.id).take j, k ∈ (all ++ [t] ++ more).map ThD.id)) (fun i _ => (holdsC acc t.id).length - (intOf i).toNat)
 case atStart => exact ⟨0, [], by omega, rfl, by rw [List.append_nil]; exact hS2, fun x hx => (by cases hx), fun k hk => (by cases hk)⟩
 case round =>
  clear hS2 c2
  obtain ⟨j, more, hj, rfl, hSr, hmo, hkd⟩ := hrel
  obtain ⟨hBr, ⟨vr, bAr, hrowr⟩, bFr, hsubr, hndr⟩ := hSr.out
  by_cases hlt : j < (holdsC acc t.id).length
  · have hSr2 : GStS S K base wr o Ts acc := hG'.out.below hBr
    have hkm : Hid ((holdsC acc t.id)[j] ∈ holdsC acc t.id) := List.getElem_mem hlt
    obtain ⟨u1, u2, u3⟩ := thOf_is (hin'.out t ht'.out _ hkm.out)
    obtain ⟨_, hrr, _⟩ := hSr2.1 t (List.mem_cons_of_mem _ ht'.out)
    rw [hform'.out] at hrr
    obtain ⟨g3, rfl, z0⟩ := row_get hrr hlt (x := ptrOf Ts (holdsC acc t.id)[j]) (by simp [hlt])
    rw [u3] at z0
    have f0 := bFr.cell 0 rfl
    have htk : Hid ((holdsC acc t.id).take (j + 1) = (holdsC acc t.id).take j ++ [(holdsC acc t.id)[j]]) := List.take_succ_eq_append_getElem hlt
    generalize hQ : (holdsC acc t.id)[j] = Q at z0 u1 u2 u3 htk hkm
    obtain ⟨U, hU⟩ : ∃ U, thOf Ts Q = U := ⟨_, rfl⟩
    rw [hU] at z0 u1 u2
    have u1' : Hid (U ∈ Ts) := u1
    have u2' : Hid (U.id = Q) := u2
    clear hQ hU u1 u2 u3 hrr hSr2 bAr hrowr bFr hsubr hndr
    have hlen : all.length < Ts.length := hless.out
    go_wp2_with fail
    refine (ih'.out (m - 1) (by omega) wr (all ++ [t] ++ more) U hSr.out u1'.out (by simp only [List.length_append, List.length_cons, List.length_nil]; omega)).mono ?_
    rintro e w2 ⟨rfl, more2, hS3, hadd⟩
    have hS3' : Hid (HS w0 Ts ba bf w2 (all ++ [t] ++ (more ++ more2))) := by rw [← List.append_assoc]; exact hS3
    have hup : ∀ k, k ∈ (all ++ [t] ++ more).map ThD.id → k ∈ (all ++ [t] ++ (more ++ more2)).map ThD.id := fun k hk => by rw [← List.append_assoc, List.map_append]; exact List.mem_append_left _ hk
    have hmo2 : Hid (∀ x ∈ more ++ more2, RT (holdsC acc) t.id x.id ∧ ∀ k ∈ holdsC acc x.id, k ∈ (all ++ [t] ++ (more ++ more2)).map ThD.id) := fun x hx => by
     rcases List.mem_append.1 hx with e | e
     · exact ⟨(hmo.out x e).1, fun k hk => hup k ((hmo.out x e).2 k hk)⟩
     · obtain ⟨r1, r2⟩ := hadd.2 x e
       rw [u2'.out] at r1
       exact ⟨RT.head hkm.out r1, fun k hk => by have q := r2 k hk; rw [List.append_assoc] at q; exact q⟩
    have hkd2 : Hid (∀ k ∈ (holdsC acc t.id).take (j + 1), k ∈ (all ++ [t] ++ (more ++ more2)).map ThD.id) := fun k hk => by
     rw [htk.out] at hk
     rcases List.mem_append.1 hk with e | e
     · exact hup k (hkd.out k e)
     · simp at e
       subst e
       have q := hadd.1
       rw [List.append_assoc, u2'.out] at q
       exact q
    clear hS3 hadd hup hSr hmo hkd f0 z0
    go_wp2_with fail
    go_roundw
    case rel => exact ⟨j + 1, more ++ more2, by omega, by go_num, hS3', hmo2, hkd2⟩
    case measure => simp [intOf]; omega
  obtain rfl : j = (holdsC acc t.id).length := by omega
  have hkd' : Hid (∀ k ∈ holdsC acc t.id, k ∈ (all ++ [t] ++ more).map ThD.id) := fun k hk => hkd.out k (by rw [List.take_length]; exact hk)
  clear hkd bAr hrowr bFr hsubr hndr
  go_wp2_with fail
  go_end0
  refine ⟨rfl, [t] ++ more, by rw [← List.append_assoc]; exact hSr.out, ?_, fun x hx => ?_⟩
  · rw [← List.append_assoc, List.map_append, List.map_append]
    exact List.mem_append_left _ (List.mem_append_right _ (by simp))
  · rw [← List.append_assoc]
    rcases List.mem_append.1 hx with e | e
    · simp at e
      subst e
      exact ⟨RT.refl _ _, hkd'.out⟩
    · exact hmo.out x e
theorem held_in {w0 : World} {K : Nat → Prop} {base : Nat} {o : ThD} {Ts : List ThD} {acc : List (Int × Int)} {ba bf : Nat} (hA : Apart (o :: Ts)) (hG : GSt K base w0 o Ts acc) (hin : ∀ t ∈ Ts, ∀ k ∈ holdsC acc t.id, (getI ThD.id Ts k).isSome = true) (hTl : Ts.length ≤ 1048576) (hba : ba = w0.heap.size) (hbf : bf = w0.heap.size + 1) (hacc : acc.length ≤ 1099511627) (m : Nat) : HeldIn w0 (holdsC acc) Ts ba bf m := by
 induction m using Nat.strongRecOn with
 | ind m ih => exact held_step hA hG hin hTl hba hbf hacc ih
set_option maxRecDepth 100000 in
set_option maxHeartbeats 2000000 in
theorem heldFrom_any {w : World} {K : Nat → Prop} {base base' : Nat} {o : ThD} {Ts ps : List ThD} {acc : List (Int × Int)} {v : Value} (hA : Apart (o :: Ts)) (hG : GSt K base w o Ts acc) (hin : ∀ t ∈ Ts, ∀ k ∈ holdsC acc t.id, (getI ThD.id Ts k).isSome = true) (hTl : Ts.length ≤ 1048576) (hacc : acc.length ≤ 1099511627)
 (hrow : w.ownsRow base' 58 1 v ps.length (ps.map fun t => Value.pointer (some ⟨t.blk, 0, none⟩))) (hps : ∀ t ∈ ps, t ∈ Ts) (hpl : ps.length ≤ 1099511627) :
 Calls Tryz.prog 33 #[v] w fun e w' => (∃ (v' : Value) (all : List ThD), e = .returned v' ∧ w'.ownsRow w.heap.size 58 1 v' all.length (all.map fun t => Value.pointer (some ⟨t.blk, 0, none⟩)) ∧ (∀ t ∈ all, t ∈ Ts) ∧ (all.map ThD.id).Nodup ∧ ∀ k, k ∈ all.map ThD.id ↔ From (holdsC acc) (ps.map ThD.id) k) ∧ Below w.heap.size w w' := by
 obtain ⟨av, cv, rfl⟩ := own_forms hrow
 have hrow' : Hid (w.ownsRow base' 58 1 (.slice av ps.length cv) ps.length (ps.map fun t => Value.pointer (some ⟨t.blk, 0, none⟩))) := hrow
 have hps' : Hid (∀ t ∈ ps, t ∈ Ts) := hps
 have hih : Hid (HeldIn w (holdsC acc) Ts w.heap.size (w.heap.size + 1) Ts.length) := held_in hA hG hin hTl rfl rfl hacc Ts.length
 have hB0 : Below w.heap.size w ((w.alloc (.cells #[.slice none 0 0] 52)).alloc (.cells #[.func (.func 61) #[] #[.pointer (some ⟨w.heap.size, 0, none⟩), .pointer (some ⟨w.heap.size + 1, 0, none⟩)]] 105)) := ((Below.refl _ _).alloc (Nat.le_refl _) _).alloc (by simp) _
 have bA0 : Box ((w.alloc (.cells #[.slice none 0 0] 52)).alloc (.cells #[.func (.func 61) #[] #[.pointer (some ⟨w.heap.size, 0, none⟩), .pointer (some ⟨w.heap.size + 1, 0, none⟩)]] 105)) w.heap.size [.slice none 0 0] 52 := (Box.new w [.slice none 0 0] 52).alloc _
 have bF0 : Box ((w.alloc (.cells #[.slice none 0 0] 52)).alloc (.cells #[.func (.func 61) #[] #[.pointer (some ⟨w.heap.size, 0, none⟩), .pointer (some ⟨w.heap.size + 1, 0, none⟩)]] 105)) (w.heap.size + 1) [.func (.func 61) #[] #[.pointer (some ⟨w.heap.size, 0, none⟩), .pointer (some ⟨w.heap.size + 1, 0, none⟩)]] 105 := by
  have q := Box.new (w.alloc (.cells #[.slice none 0 0] 52)) [.func (.func 61) #[] #[.pointer (some ⟨w.heap.size, 0, none⟩), .pointer (some ⟨w.heap.size + 1, 0, none⟩)]] 105
  simpa only [World.size_alloc] using q
 have hS0 : Hid (HS w Ts w.heap.size (w.heap.size + 1) ((w.alloc (.cells #[.slice none 0 0] 52)).alloc (.cells #[.func (.func 61) #[] #[.pointer (some ⟨w.heap.size, 0, none⟩), .pointer (some ⟨w.heap.size + 1, 0, none⟩)]] 105)) []) := ⟨hB0, ⟨_, bA0, World.ownsRow_nil _ _ _ _⟩, bF0, fun t ht => (by cases ht), List.nodup_nil⟩
 clear hB0 bA0 bF0
 clear hrow hps hA hG hin
 go_enter Tryz.func33, Tryz.ntmps33
 go_wp2_with fail
 go_loopw [10] (fun i wr => ∃ (j : Nat) (all : List ThD), j ≤ ps.length ∧ i = .int .i64 j ∧ Hid (HS w Ts w.heap.size (w.heap.size + 1) wr all) ∧ Hid (∀ x ∈ all, From (holdsC acc) (ps.map ThD.id) x.id ∧ ∀ k ∈ holdsC acc x.id, k ∈ all.map ThD.id) ∧ Hid (∀ t ∈ ps.take j, t.id ∈ all.map ThD.id)) (fun i _ => ps.length - (intOf i).toNat)
 case atStart => exact ⟨0, [], by omega, rfl, hS0, fun x hx => (by cases hx), fun x hx => (by cases hx)⟩
 case round =>
  clear hS0
  obtain ⟨j, all, hj, rfl, hSr, hmo, hkd⟩ := hrel
  obtain ⟨hBr, ⟨vr, bAr, hrowr⟩, bFr, hsubr, hndr⟩ := hSr.out
  by_cases hlt : j < ps.length
  · obtain ⟨g3, rfl, z1⟩ := row_get hrow'.out hlt (x := .pointer (some ⟨ps[j].blk, 0, none⟩)) (by simp [hlt])
    have z0 := cell_on hBr z1
    have hUm : Hid (ps[j] ∈ ps) := List.getElem_mem hlt
    have htk : Hid (ps.take (j + 1) = ps.take j ++ [ps[j]]) := List.take_succ_eq_append_getElem hlt
    generalize ps[j] = U at z0 z1 hUm htk
    have f0 := bFr.cell 0 rfl
    clear z1 bAr hrowr bFr hsubr hndr
    go_wp2_with fail
    refine (hih.out wr all U hSr.out (hps'.out U hUm.out) (by omega)).mono ?_
    rintro e w2 ⟨rfl, more, hS3, hadd⟩
    have hS3' : Hid (HS w Ts w.heap.size (w.heap.size + 1) w2 (all ++ more)) := hS3
    have hmo2 : Hid (∀ x ∈ all ++ more, From (holdsC acc) (ps.map ThD.id) x.id ∧ ∀ k ∈ holdsC acc x.id, k ∈ (all ++ more).map ThD.id) := fun x hx => by
     rcases List.mem_append.1 hx with e | e
     · exact ⟨(hmo.out x e).1, fun k hk => by rw [List.map_append]; exact List.mem_append_left _ ((hmo.out x e).2 k hk)⟩
     · obtain ⟨r1, r2⟩ := hadd.2 x e
       exact ⟨⟨U.id, List.mem_map_of_mem hUm.out, r1⟩, r2⟩
    have hkd2 : Hid (∀ t ∈ ps.take (j + 1), t.id ∈ (all ++ more).map ThD.id) := fun x hx => by
     rw [htk.out] at hx
     rcases List.mem_append.1 hx with e | e
     · rw [List.map_append]; exact List.mem_append_left _ (hkd.out x e)
     · simp at e
       subst e
       exact hadd.1
    clear hS3 hadd hSr hmo hkd f0 z0
    go_wp2_with fail
    go_roundw
    case rel => exact ⟨j + 1, all ++ more, by omega, by go_num, hS3', hmo2, hkd2⟩
    case measure => simp [intOf]; omega
  obtain rfl : j = ps.length := by omega
  obtain ⟨ar, cr, rfl⟩ := own_forms hrowr
  have c0 := bAr.cell 0 rfl
  have hrw : Hid (wr.ownsRow w.heap.size 58 1 (.slice ar all.length cr) all.length (all.map fun t => Value.pointer (some ⟨t.blk, 0, none⟩))) := World.ownsRow.mono hrowr (by omega)
  have hsub' : Hid (∀ t ∈ all, t ∈ Ts) := hsubr
  have hnd' : Hid ((all.map ThD.id).Nodup) := hndr
  have hfrom : Hid (∀ k, k ∈ all.map ThD.id ↔ From (holdsC acc) (ps.map ThD.id) k) := fun k => by
   constructor
   · intro hk
     obtain ⟨x, hx, rfl⟩ := List.mem_map.1 hk
     exact (hmo.out x hx).1
   · refine from_closed (fun x hx => ?_) (fun x hx y hy => ?_) k
     · obtain ⟨u, hu, rfl⟩ := List.mem_map.1 hx
       exact hkd.out u (by rw [List.take_length]; exact hu)
     · obtain ⟨u, hu, rfl⟩ := List.mem_map.1 hx
       exact (hmo.out u hu).2 y hy
  clear hrowr bAr bFr hsubr hndr hSr hmo hkd
  go_wp2_with fail
  go_ret
  exact ⟨⟨_, all, rfl, hrw.out, hsub'.out, hnd'.out, hfrom.out⟩, hBr⟩
/-- the numbers of things, sorted -/
def sortI (xs : List Int) : List Int := xs.mergeSort fun x y => decide (x ≤ y)
theorem sortI_len (xs : List Int) : (sortI xs).length = xs.length := List.length_mergeSort _
open Go.Sort in
set_option maxRecDepth 100000 in
set_option maxHeartbeats 2000000 in
theorem risingIds_any {w : World} {base : Nat} {v : Value} {ps : List ThD} (hrow : w.ownsRow base 58 1 v ps.length (ps.map fun t => Value.pointer (some ⟨t.blk, 0, none⟩))) (hbox : ∀ t ∈ ps, w.cell? ⟨t.blk, 0, none⟩ = some (.int .i64 t.id)) (hl : ps.length ≤ 1099511627) :
 Calls Tryz.prog 27 #[v] w fun e w' => (∃ v', e = .returned v' ∧ w'.ownsRow w.heap.size 2 1 v' (sortI (ps.map ThD.id)).length ((sortI (ps.map ThD.id)).map fun n => .int .i64 n)) ∧ Below w.heap.size w w' := by
 obtain ⟨av, cv, rfl⟩ := own_forms hrow
 have hrow' : Hid (w.ownsRow base 58 1 (.slice av ps.length cv) ps.length (ps.map fun t => Value.pointer (some ⟨t.blk, 0, none⟩))) := hrow
 have hbox' : Hid (∀ t ∈ ps, w.cell? ⟨t.blk, 0, none⟩ = some (.int .i64 t.id)) := hbox
 have hsl : Hid ((sortI (ps.map ThD.id)).length = ps.length) := by show _ = _; rw [sortI_len, List.length_map]
 clear hrow hbox
 go_enter Tryz.func27, Tryz.ntmps27
 go_wp2_with fail
 refine (thingIds_any hrow'.out hbox'.out hl).mono ?_
 rintro e w1 ⟨⟨v1, rfl, hown1⟩, hb1⟩
 obtain ⟨a1, c1, rfl⟩ := own_forms hown1
 have hm1 : (ps.map fun t => Value.int .i64 t.id) = (ps.map ThD.id).map (Value.int .i64) := by rw [List.map_map]; rfl
 rw [hm1] at hown1
 have hown1' : Hid (w1.ownsRow w.heap.size 2 1 (.slice a1 ps.length c1) ps.length ((ps.map ThD.id).map (Value.int .i64))) := hown1
 clear hm1
 rcases hown1.2 with ⟨e0, hn0⟩ | ⟨gi, capi, cur, ev, hgi, hcur, hn1, hn2, hn3, hn4⟩
 · injection e0 with e1 e2 e3
   subst e1 e3
   have hnil : ps = [] := List.eq_nil_of_length_eq_zero hn0
   subst hnil
   have hs0 : Hid (Calls Tryz.prog 48 #[.slice none 0 0] w1 fun e w' => e = .returned (.tuple #[]) ∧ w' = w1) := AnyG.slices_Sort_int_none sortLaid none 0 w1
   clear hown1 e2 hn0
   simp only [List.length_nil]
   go_wp2_with fail
   refine hs0.out.mono ?_
   rintro e w2 ⟨rfl, hw2⟩
   rw [hw2]
   go_wp2_with fail
   go_ret
   have hs00 : sortI (([] : List ThD).map ThD.id) = [] := by simp [sortI]
   exact ⟨⟨_, rfl, by rw [hs00]; exact World.ownsRow_nil _ _ _ _⟩, hb1⟩
 injection ev with ev1 _ ev3
 subst ev1 ev3
 have hUl : (ps.map ThD.id).length = ps.length := by simp
 rw [← hUl] at hn1 hn4
 have hsort := AnyG.slices_Sort_int sortLaid gi 0 c1 (ps.map ThD.id) w1 (holds_of_blockI hcur (by simpa using hn4)) (Array.getElem?_eq_some_iff.1 hcur).1 (by omega)
 change Calls Tryz.prog 48 _ _ _ at hsort
 rw [hUl] at hsort
 have hsort' : Hid (Calls Tryz.prog 48 #[.slice (some ⟨gi, 0, none⟩) ps.length c1] w1 fun e w' => e = .returned (.tuple #[]) ∧ ∃ n os, w' = grow (putRow (Value.int .i64) (Sort.ahead w1 n) gi 0 (sortI (ps.map ThD.id)).toArray) os) := hsort
 have hsr : Hid (∀ nn os, (grow (putRow (Value.int .i64) (Sort.ahead w1 nn) gi 0 (sortI (ps.map ThD.id)).toArray) os).ownsRow w.heap.size 2 1 (.slice (some ⟨gi, 0, none⟩) ps.length c1) ps.length ((sortI (ps.map ThD.id)).map (Value.int .i64))) := fun nn os => by
  have q := ownsRow_sortedI (n := nn) (os := os) (ss := ps.map ThD.id) (ts := sortI (ps.map ThD.id)) (sortI_len _) hgi hcur hn1 hn2 (by simpa using hn3)
  rw [hUl] at q; exact q
 have hsg : Hid (∀ nn os, w1.grownBy (grow (putRow (Value.int .i64) (Sort.ahead w1 nn) gi 0 (sortI (ps.map ThD.id)).toArray) os) (some gi)) := fun nn os => grownBy_sortedI _
 have hb1s := hb1.size
 clear hcur hn1 hn2 hn3 hn4 hsort hown1
 go_wp2_with fail
 refine hsort'.out.mono ?_
 rintro e w3 ⟨rfl, nn, os, hw3⟩
 have hr3 : Hid (w3.ownsRow w.heap.size 2 1 (.slice (some ⟨gi, 0, none⟩) ps.length c1) ps.length ((sortI (ps.map ThD.id)).map (Value.int .i64))) := by rw [hw3]; exact hsr.out nn os
 have hg3 : w1.grownBy w3 (some gi) := by rw [hw3]; exact hsg.out nn os
 have hb4 : Below w.heap.size w w3 := hb1.grown hg3 hb1s (fun k e => by cases e; exact hgi)
 clear hw3 hsr hsg hsort' hg3
 go_wp2_with fail
 go_ret
 exact ⟨⟨_, rfl, by rw [hsl.out]; exact hr3.out⟩, hb4⟩
end Go.Proofs.YtdnembnlomnceaaGreat
