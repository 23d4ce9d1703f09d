/- The program's test of an op, walked kind by kind. -/
import Derived.Test.YtiegfonakdcciaaOpForms
namespace Go.Proofs.Ytiegfonakdcciaa
open Go.RowKit
set_option maxHeartbeats 800000 in
theorem actionOf1 {w : World} {x : OpD} :
    Calls Try.prog 14 #[.agg #[.int .i64 1, .string x.vName, .string x.vOther, .string x.vWord, .string x.vType, .bool x.vCapture, .bool x.vOnce, .int .i64 x.vStop, .string x.vLname]] w fun e w' => e = .returned (.tuple #[.iface 53 (.agg #[.string x.vName, .string x.vWord]), .bool true]) ∧ w' = (((((w.alloc (.cells #[.int .i64 1, .string x.vName, .string x.vOther, .string x.vWord, .string x.vType, .bool x.vCapture, .bool x.vOnce, .int .i64 x.vStop, .string x.vLname] 30)).alloc (.cells #[.string x.vName] 45)).alloc (.cells #[.string x.vName, .string x.vWord] 47)).alloc (.cells #[.string x.vName, .string x.vOther] 49)).alloc (.cells #[.string x.vName, .string x.vWord, .string x.vOther] 51)) := by
  go_enter Try.func14, Try.ntmps14
  go_wp2_with fail
  go_ret2
  exact ⟨rfl, rfl⟩
set_option maxHeartbeats 800000 in
theorem actionOf2 {w : World} {x : OpD} :
    Calls Try.prog 14 #[.agg #[.int .i64 2, .string x.vName, .string x.vOther, .string x.vWord, .string x.vType, .bool x.vCapture, .bool x.vOnce, .int .i64 x.vStop, .string x.vLname]] w fun e w' => e = .returned (.tuple #[.iface 55 (.agg #[.string x.vName]), .bool true]) ∧ w' = (((((w.alloc (.cells #[.int .i64 2, .string x.vName, .string x.vOther, .string x.vWord, .string x.vType, .bool x.vCapture, .bool x.vOnce, .int .i64 x.vStop, .string x.vLname] 30)).alloc (.cells #[.string x.vName] 45)).alloc (.cells #[.string x.vName, .string x.vWord] 47)).alloc (.cells #[.string x.vName, .string x.vOther] 49)).alloc (.cells #[.string x.vName, .string x.vWord, .string x.vOther] 51)) := by
  go_enter Try.func14, Try.ntmps14
  go_wp2_with fail
  go_ret2
  exact ⟨rfl, rfl⟩
set_option maxHeartbeats 800000 in
theorem actionOf3 {w : World} {x : OpD} :
    Calls Try.prog 14 #[.agg #[.int .i64 3, .string x.vName, .string x.vOther, .string x.vWord, .string x.vType, .bool x.vCapture, .bool x.vOnce, .int .i64 x.vStop, .string x.vLname]] w fun e w' => e = .returned (.tuple #[.iface 57 (.agg #[.string x.vName, .string x.vWord, .string x.vOther]), .bool true]) ∧ w' = (((((w.alloc (.cells #[.int .i64 3, .string x.vName, .string x.vOther, .string x.vWord, .string x.vType, .bool x.vCapture, .bool x.vOnce, .int .i64 x.vStop, .string x.vLname] 30)).alloc (.cells #[.string x.vName] 45)).alloc (.cells #[.string x.vName, .string x.vWord] 47)).alloc (.cells #[.string x.vName, .string x.vOther] 49)).alloc (.cells #[.string x.vName, .string x.vWord, .string x.vOther] 51)) := by
  go_enter Try.func14, Try.ntmps14
  go_wp2_with fail
  go_ret2
  exact ⟨rfl, rfl⟩
set_option maxHeartbeats 800000 in
theorem actionOf4 {w : World} {x : OpD} :
    Calls Try.prog 14 #[.agg #[.int .i64 4, .string x.vName, .string x.vOther, .string x.vWord, .string x.vType, .bool x.vCapture, .bool x.vOnce, .int .i64 x.vStop, .string x.vLname]] w fun e w' => e = .returned (.tuple #[.iface 58 (.agg #[.string x.vName, .string x.vWord, .string x.vOther]), .bool true]) ∧ w' = (((((w.alloc (.cells #[.int .i64 4, .string x.vName, .string x.vOther, .string x.vWord, .string x.vType, .bool x.vCapture, .bool x.vOnce, .int .i64 x.vStop, .string x.vLname] 30)).alloc (.cells #[.string x.vName] 45)).alloc (.cells #[.string x.vName, .string x.vWord] 47)).alloc (.cells #[.string x.vName, .string x.vOther] 49)).alloc (.cells #[.string x.vName, .string x.vWord, .string x.vOther] 51)) := by
  go_enter Try.func14, Try.ntmps14
  go_wp2_with fail
  go_ret2
  exact ⟨rfl, rfl⟩
set_option maxHeartbeats 800000 in
theorem actionOf5 {w : World} {x : OpD} :
    Calls Try.prog 14 #[.agg #[.int .i64 5, .string x.vName, .string x.vOther, .string x.vWord, .string x.vType, .bool x.vCapture, .bool x.vOnce, .int .i64 x.vStop, .string x.vLname]] w fun e w' => e = .returned (.tuple #[.iface 59 (.agg #[.string x.vName, .string x.vWord]), .bool true]) ∧ w' = (((((w.alloc (.cells #[.int .i64 5, .string x.vName, .string x.vOther, .string x.vWord, .string x.vType, .bool x.vCapture, .bool x.vOnce, .int .i64 x.vStop, .string x.vLname] 30)).alloc (.cells #[.string x.vName] 45)).alloc (.cells #[.string x.vName, .string x.vWord] 47)).alloc (.cells #[.string x.vName, .string x.vOther] 49)).alloc (.cells #[.string x.vName, .string x.vWord, .string x.vOther] 51)) := by
  go_enter Try.func14, Try.ntmps14
  go_wp2_with fail
  go_ret2
  exact ⟨rfl, rfl⟩
set_option maxHeartbeats 800000 in
theorem actionOf6 {w : World} {x : OpD} :
    Calls Try.prog 14 #[.agg #[.int .i64 6, .string x.vName, .string x.vOther, .string x.vWord, .string x.vType, .bool x.vCapture, .bool x.vOnce, .int .i64 x.vStop, .string x.vLname]] w fun e w' => e = .returned (.tuple #[.iface 60 (.agg #[.string x.vName]), .bool true]) ∧ w' = (((((w.alloc (.cells #[.int .i64 6, .string x.vName, .string x.vOther, .string x.vWord, .string x.vType, .bool x.vCapture, .bool x.vOnce, .int .i64 x.vStop, .string x.vLname] 30)).alloc (.cells #[.string x.vName] 45)).alloc (.cells #[.string x.vName, .string x.vWord] 47)).alloc (.cells #[.string x.vName, .string x.vOther] 49)).alloc (.cells #[.string x.vName, .string x.vWord, .string x.vOther] 51)) := by
  go_enter Try.func14, Try.ntmps14
  go_wp2_with fail
  go_ret2
  exact ⟨rfl, rfl⟩
set_option maxHeartbeats 800000 in
theorem actionOf7 {w : World} {x : OpD} :
    Calls Try.prog 14 #[.agg #[.int .i64 7, .string x.vName, .string x.vOther, .string x.vWord, .string x.vType, .bool x.vCapture, .bool x.vOnce, .int .i64 x.vStop, .string x.vLname]] w fun e w' => e = .returned (.tuple #[.iface 62 (.agg #[.string x.vName, .string x.vOther]), .bool true]) ∧ w' = (((((w.alloc (.cells #[.int .i64 7, .string x.vName, .string x.vOther, .string x.vWord, .string x.vType, .bool x.vCapture, .bool x.vOnce, .int .i64 x.vStop, .string x.vLname] 30)).alloc (.cells #[.string x.vName] 45)).alloc (.cells #[.string x.vName, .string x.vWord] 47)).alloc (.cells #[.string x.vName, .string x.vOther] 49)).alloc (.cells #[.string x.vName, .string x.vWord, .string x.vOther] 51)) := by
  go_enter Try.func14, Try.ntmps14
  go_wp2_with fail
  go_ret2
  exact ⟨rfl, rfl⟩
set_option maxHeartbeats 800000 in
theorem actionOf8 {w : World} {x : OpD} :
    Calls Try.prog 14 #[.agg #[.int .i64 8, .string x.vName, .string x.vOther, .string x.vWord, .string x.vType, .bool x.vCapture, .bool x.vOnce, .int .i64 x.vStop, .string x.vLname]] w fun e w' => e = .returned (.tuple #[.iface 63 (.agg #[.string x.vName, .string x.vOther]), .bool true]) ∧ w' = (((((w.alloc (.cells #[.int .i64 8, .string x.vName, .string x.vOther, .string x.vWord, .string x.vType, .bool x.vCapture, .bool x.vOnce, .int .i64 x.vStop, .string x.vLname] 30)).alloc (.cells #[.string x.vName] 45)).alloc (.cells #[.string x.vName, .string x.vWord] 47)).alloc (.cells #[.string x.vName, .string x.vOther] 49)).alloc (.cells #[.string x.vName, .string x.vWord, .string x.vOther] 51)) := by
  go_enter Try.func14, Try.ntmps14
  go_wp2_with fail
  go_ret2
  exact ⟨rfl, rfl⟩
set_option maxHeartbeats 800000 in
theorem actionOf9 {w : World} {x : OpD} :
    Calls Try.prog 14 #[.agg #[.int .i64 9, .string x.vName, .string x.vOther, .string x.vWord, .string x.vType, .bool x.vCapture, .bool x.vOnce, .int .i64 x.vStop, .string x.vLname]] w fun e w' => e = .returned (.tuple #[.iface 64 (.agg #[.string x.vName]), .bool true]) ∧ w' = (((((w.alloc (.cells #[.int .i64 9, .string x.vName, .string x.vOther, .string x.vWord, .string x.vType, .bool x.vCapture, .bool x.vOnce, .int .i64 x.vStop, .string x.vLname] 30)).alloc (.cells #[.string x.vName] 45)).alloc (.cells #[.string x.vName, .string x.vWord] 47)).alloc (.cells #[.string x.vName, .string x.vOther] 49)).alloc (.cells #[.string x.vName, .string x.vWord, .string x.vOther] 51)) := by
  go_enter Try.func14, Try.ntmps14
  go_wp2_with fail
  go_ret2
  exact ⟨rfl, rfl⟩
set_option maxHeartbeats 800000 in
theorem actionOf10 {w : World} {x : OpD} :
    Calls Try.prog 14 #[.agg #[.int .i64 10, .string x.vName, .string x.vOther, .string x.vWord, .string x.vType, .bool x.vCapture, .bool x.vOnce, .int .i64 x.vStop, .string x.vLname]] w fun e w' => e = .returned (.tuple #[.iface 65 (.agg #[.string x.vName]), .bool true]) ∧ w' = (((((w.alloc (.cells #[.int .i64 10, .string x.vName, .string x.vOther, .string x.vWord, .string x.vType, .bool x.vCapture, .bool x.vOnce, .int .i64 x.vStop, .string x.vLname] 30)).alloc (.cells #[.string x.vName] 45)).alloc (.cells #[.string x.vName, .string x.vWord] 47)).alloc (.cells #[.string x.vName, .string x.vOther] 49)).alloc (.cells #[.string x.vName, .string x.vWord, .string x.vOther] 51)) := by
  go_enter Try.func14, Try.ntmps14
  go_wp2_with fail
  go_ret2
  exact ⟨rfl, rfl⟩
set_option maxHeartbeats 800000 in
theorem actionOf11 {w : World} {x : OpD} :
    Calls Try.prog 14 #[.agg #[.int .i64 11, .string x.vName, .string x.vOther, .string x.vWord, .string x.vType, .bool x.vCapture, .bool x.vOnce, .int .i64 x.vStop, .string x.vLname]] w fun e w' => e = .returned (.tuple #[.iface 66 (.agg #[.string x.vName, .string x.vOther]), .bool true]) ∧ w' = (((((w.alloc (.cells #[.int .i64 11, .string x.vName, .string x.vOther, .string x.vWord, .string x.vType, .bool x.vCapture, .bool x.vOnce, .int .i64 x.vStop, .string x.vLname] 30)).alloc (.cells #[.string x.vName] 45)).alloc (.cells #[.string x.vName, .string x.vWord] 47)).alloc (.cells #[.string x.vName, .string x.vOther] 49)).alloc (.cells #[.string x.vName, .string x.vWord, .string x.vOther] 51)) := by
  go_enter Try.func14, Try.ntmps14
  go_wp2_with fail
  go_ret2
  exact ⟨rfl, rfl⟩
set_option maxHeartbeats 800000 in
theorem actionOf12 {w : World} {x : OpD} :
    Calls Try.prog 14 #[.agg #[.int .i64 12, .string x.vName, .string x.vOther, .string x.vWord, .string x.vType, .bool x.vCapture, .bool x.vOnce, .int .i64 x.vStop, .string x.vLname]] w fun e w' => e = .returned (.tuple #[.iface 70 (.agg #[.string x.vName, .string x.vType, .bool x.vCapture, .bool x.vOnce, .int .i64 x.vStop, .string x.vLname]), .bool true]) ∧ w' = (((((w.alloc (.cells #[.int .i64 12, .string x.vName, .string x.vOther, .string x.vWord, .string x.vType, .bool x.vCapture, .bool x.vOnce, .int .i64 x.vStop, .string x.vLname] 30)).alloc (.cells #[.string x.vName] 45)).alloc (.cells #[.string x.vName, .string x.vWord] 47)).alloc (.cells #[.string x.vName, .string x.vOther] 49)).alloc (.cells #[.string x.vName, .string x.vWord, .string x.vOther] 51)) := by
  go_enter Try.func14, Try.ntmps14
  go_wp2_with fail
  go_ret2
  exact ⟨rfl, rfl⟩
theorem actionOfB1 {w : World} {x : OpD} :
    Calls Try.prog 14 #[.agg #[.int .i64 1, .string x.vName, .string x.vOther, .string x.vWord, .string x.vType, .bool x.vCapture, .bool x.vOnce, .int .i64 x.vStop, .string x.vLname]] w fun e w' => e = .returned (.tuple #[.iface 53 (.agg #[.string x.vName, .string x.vWord]), .bool true]) ∧ Below w.heap.size w w' :=
  actionOf1.mono (by rintro e w' ⟨rfl, rfl⟩; exact ⟨rfl, (((((Below.refl _ _).alloc (Nat.le_refl _) _).alloc (by simp) _).alloc (by simp; omega) _).alloc (by simp; omega) _).alloc (by simp; omega) _⟩)
theorem actionOfB2 {w : World} {x : OpD} :
    Calls Try.prog 14 #[.agg #[.int .i64 2, .string x.vName, .string x.vOther, .string x.vWord, .string x.vType, .bool x.vCapture, .bool x.vOnce, .int .i64 x.vStop, .string x.vLname]] w fun e w' => e = .returned (.tuple #[.iface 55 (.agg #[.string x.vName]), .bool true]) ∧ Below w.heap.size w w' :=
  actionOf2.mono (by rintro e w' ⟨rfl, rfl⟩; exact ⟨rfl, (((((Below.refl _ _).alloc (Nat.le_refl _) _).alloc (by simp) _).alloc (by simp; omega) _).alloc (by simp; omega) _).alloc (by simp; omega) _⟩)
theorem actionOfB3 {w : World} {x : OpD} :
    Calls Try.prog 14 #[.agg #[.int .i64 3, .string x.vName, .string x.vOther, .string x.vWord, .string x.vType, .bool x.vCapture, .bool x.vOnce, .int .i64 x.vStop, .string x.vLname]] w fun e w' => e = .returned (.tuple #[.iface 57 (.agg #[.string x.vName, .string x.vWord, .string x.vOther]), .bool true]) ∧ Below w.heap.size w w' :=
  actionOf3.mono (by rintro e w' ⟨rfl, rfl⟩; exact ⟨rfl, (((((Below.refl _ _).alloc (Nat.le_refl _) _).alloc (by simp) _).alloc (by simp; omega) _).alloc (by simp; omega) _).alloc (by simp; omega) _⟩)
theorem actionOfB4 {w : World} {x : OpD} :
    Calls Try.prog 14 #[.agg #[.int .i64 4, .string x.vName, .string x.vOther, .string x.vWord, .string x.vType, .bool x.vCapture, .bool x.vOnce, .int .i64 x.vStop, .string x.vLname]] w fun e w' => e = .returned (.tuple #[.iface 58 (.agg #[.string x.vName, .string x.vWord, .string x.vOther]), .bool true]) ∧ Below w.heap.size w w' :=
  actionOf4.mono (by rintro e w' ⟨rfl, rfl⟩; exact ⟨rfl, (((((Below.refl _ _).alloc (Nat.le_refl _) _).alloc (by simp) _).alloc (by simp; omega) _).alloc (by simp; omega) _).alloc (by simp; omega) _⟩)
theorem actionOfB5 {w : World} {x : OpD} :
    Calls Try.prog 14 #[.agg #[.int .i64 5, .string x.vName, .string x.vOther, .string x.vWord, .string x.vType, .bool x.vCapture, .bool x.vOnce, .int .i64 x.vStop, .string x.vLname]] w fun e w' => e = .returned (.tuple #[.iface 59 (.agg #[.string x.vName, .string x.vWord]), .bool true]) ∧ Below w.heap.size w w' :=
  actionOf5.mono (by rintro e w' ⟨rfl, rfl⟩; exact ⟨rfl, (((((Below.refl _ _).alloc (Nat.le_refl _) _).alloc (by simp) _).alloc (by simp; omega) _).alloc (by simp; omega) _).alloc (by simp; omega) _⟩)
theorem actionOfB6 {w : World} {x : OpD} :
    Calls Try.prog 14 #[.agg #[.int .i64 6, .string x.vName, .string x.vOther, .string x.vWord, .string x.vType, .bool x.vCapture, .bool x.vOnce, .int .i64 x.vStop, .string x.vLname]] w fun e w' => e = .returned (.tuple #[.iface 60 (.agg #[.string x.vName]), .bool true]) ∧ Below w.heap.size w w' :=
  actionOf6.mono (by rintro e w' ⟨rfl, rfl⟩; exact ⟨rfl, (((((Below.refl _ _).alloc (Nat.le_refl _) _).alloc (by simp) _).alloc (by simp; omega) _).alloc (by simp; omega) _).alloc (by simp; omega) _⟩)
theorem actionOfB7 {w : World} {x : OpD} :
    Calls Try.prog 14 #[.agg #[.int .i64 7, .string x.vName, .string x.vOther, .string x.vWord, .string x.vType, .bool x.vCapture, .bool x.vOnce, .int .i64 x.vStop, .string x.vLname]] w fun e w' => e = .returned (.tuple #[.iface 62 (.agg #[.string x.vName, .string x.vOther]), .bool true]) ∧ Below w.heap.size w w' :=
  actionOf7.mono (by rintro e w' ⟨rfl, rfl⟩; exact ⟨rfl, (((((Below.refl _ _).alloc (Nat.le_refl _) _).alloc (by simp) _).alloc (by simp; omega) _).alloc (by simp; omega) _).alloc (by simp; omega) _⟩)
theorem actionOfB8 {w : World} {x : OpD} :
    Calls Try.prog 14 #[.agg #[.int .i64 8, .string x.vName, .string x.vOther, .string x.vWord, .string x.vType, .bool x.vCapture, .bool x.vOnce, .int .i64 x.vStop, .string x.vLname]] w fun e w' => e = .returned (.tuple #[.iface 63 (.agg #[.string x.vName, .string x.vOther]), .bool true]) ∧ Below w.heap.size w w' :=
  actionOf8.mono (by rintro e w' ⟨rfl, rfl⟩; exact ⟨rfl, (((((Below.refl _ _).alloc (Nat.le_refl _) _).alloc (by simp) _).alloc (by simp; omega) _).alloc (by simp; omega) _).alloc (by simp; omega) _⟩)
theorem actionOfB9 {w : World} {x : OpD} :
    Calls Try.prog 14 #[.agg #[.int .i64 9, .string x.vName, .string x.vOther, .string x.vWord, .string x.vType, .bool x.vCapture, .bool x.vOnce, .int .i64 x.vStop, .string x.vLname]] w fun e w' => e = .returned (.tuple #[.iface 64 (.agg #[.string x.vName]), .bool true]) ∧ Below w.heap.size w w' :=
  actionOf9.mono (by rintro e w' ⟨rfl, rfl⟩; exact ⟨rfl, (((((Below.refl _ _).alloc (Nat.le_refl _) _).alloc (by simp) _).alloc (by simp; omega) _).alloc (by simp; omega) _).alloc (by simp; omega) _⟩)
theorem actionOfB10 {w : World} {x : OpD} :
    Calls Try.prog 14 #[.agg #[.int .i64 10, .string x.vName, .string x.vOther, .string x.vWord, .string x.vType, .bool x.vCapture, .bool x.vOnce, .int .i64 x.vStop, .string x.vLname]] w fun e w' => e = .returned (.tuple #[.iface 65 (.agg #[.string x.vName]), .bool true]) ∧ Below w.heap.size w w' :=
  actionOf10.mono (by rintro e w' ⟨rfl, rfl⟩; exact ⟨rfl, (((((Below.refl _ _).alloc (Nat.le_refl _) _).alloc (by simp) _).alloc (by simp; omega) _).alloc (by simp; omega) _).alloc (by simp; omega) _⟩)
theorem actionOfB11 {w : World} {x : OpD} :
    Calls Try.prog 14 #[.agg #[.int .i64 11, .string x.vName, .string x.vOther, .string x.vWord, .string x.vType, .bool x.vCapture, .bool x.vOnce, .int .i64 x.vStop, .string x.vLname]] w fun e w' => e = .returned (.tuple #[.iface 66 (.agg #[.string x.vName, .string x.vOther]), .bool true]) ∧ Below w.heap.size w w' :=
  actionOf11.mono (by rintro e w' ⟨rfl, rfl⟩; exact ⟨rfl, (((((Below.refl _ _).alloc (Nat.le_refl _) _).alloc (by simp) _).alloc (by simp; omega) _).alloc (by simp; omega) _).alloc (by simp; omega) _⟩)
theorem actionOfB12 {w : World} {x : OpD} :
    Calls Try.prog 14 #[.agg #[.int .i64 12, .string x.vName, .string x.vOther, .string x.vWord, .string x.vType, .bool x.vCapture, .bool x.vOnce, .int .i64 x.vStop, .string x.vLname]] w fun e w' => e = .returned (.tuple #[.iface 70 (.agg #[.string x.vName, .string x.vType, .bool x.vCapture, .bool x.vOnce, .int .i64 x.vStop, .string x.vLname]), .bool true]) ∧ Below w.heap.size w w' :=
  actionOf12.mono (by rintro e w' ⟨rfl, rfl⟩; exact ⟨rfl, (((((Below.refl _ _).alloc (Nat.le_refl _) _).alloc (by simp) _).alloc (by simp; omega) _).alloc (by simp; omega) _).alloc (by simp; omega) _⟩)
set_option maxHeartbeats 800000 in
theorem actionOf0 {w : World} {x : OpD} (n1 : x.vKind ≠ 1) (n2 : x.vKind ≠ 2) (n3 : x.vKind ≠ 3) (n4 : x.vKind ≠ 4) (n5 : x.vKind ≠ 5) (n6 : x.vKind ≠ 6) (n7 : x.vKind ≠ 7) (n8 : x.vKind ≠ 8) (n9 : x.vKind ≠ 9) (n10 : x.vKind ≠ 10) (n11 : x.vKind ≠ 11) (n12 : x.vKind ≠ 12) :
    Calls Try.prog 14 #[.agg #[.int .i64 x.vKind, .string x.vName, .string x.vOther, .string x.vWord, .string x.vType, .bool x.vCapture, .bool x.vOnce, .int .i64 x.vStop, .string x.vLname]] w fun e w' => e = .returned (.tuple #[.nilIface, .bool false]) ∧ w' = (((((w.alloc (.cells #[.int .i64 x.vKind, .string x.vName, .string x.vOther, .string x.vWord, .string x.vType, .bool x.vCapture, .bool x.vOnce, .int .i64 x.vStop, .string x.vLname] 30)).alloc (.cells #[.string x.vName] 45)).alloc (.cells #[.string x.vName, .string x.vWord] 47)).alloc (.cells #[.string x.vName, .string x.vOther] 49)).alloc (.cells #[.string x.vName, .string x.vWord, .string x.vOther] 51)) := by
  have n1' : (x.vKind == 1) = false := by simpa using n1
  have n2' : (x.vKind == 2) = false := by simpa using n2
  have n3' : (x.vKind == 3) = false := by simpa using n3
  have n4' : (x.vKind == 4) = false := by simpa using n4
  have n5' : (x.vKind == 5) = false := by simpa using n5
  have n6' : (x.vKind == 6) = false := by simpa using n6
  have n7' : (x.vKind == 7) = false := by simpa using n7
  have n8' : (x.vKind == 8) = false := by simpa using n8
  have n9' : (x.vKind == 9) = false := by simpa using n9
  have n10' : (x.vKind == 10) = false := by simpa using n10
  have n11' : (x.vKind == 11) = false := by simpa using n11
  have n12' : (x.vKind == 12) = false := by simpa using n12
  clear n1 n2 n3 n4 n5 n6 n7 n8 n9 n10 n11 n12
  go_enter Try.func14, Try.ntmps14
  go_wp2_with fail
  go_ret2
  exact ⟨rfl, rfl⟩
end Go.Proofs.Ytiegfonakdcciaa
