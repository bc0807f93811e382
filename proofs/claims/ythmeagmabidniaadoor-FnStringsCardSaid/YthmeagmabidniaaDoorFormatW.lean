/-
  Contracts of the two functions that write a number within bounds, and of the test of bounds.
-/
import Derived.Test.YthmeagmabidniaaDoorRows
import Derived.Test.YthmeagmabidniaaDoorNumW
import Derived.Test.YthmeagmabidniaaDoorShelfNum
import Derived.Lib.AppendIntMem
import Derived.WalkSmall
namespace Go.Proofs.YthmeagmabidniaaDoor
open Go.RowKit

namespace FormatW
open NumW

theorem l1In_yes (x a b : Int) (w : World) (ha : a ≤ x) (hb : x ≤ b) :
    Calls Tryd.prog 24 #[.int .i64 x, .int .i64 a, .int .i64 b] w fun e w' => e = .returned (.bool true) ∧ w = w' := by
  have e1 : decide (a ≤ x) = true := by simpa using ha
  have e2 : decide (x ≤ b) = true := by simpa using hb
  go_enter Tryd.func24, Tryd.ntmps24
  go_wp2
  go_ret
  exact ⟨rfl, rfl⟩

theorem l1In_low (x a b : Int) (w : World) (ha : x < a) :
    Calls Tryd.prog 24 #[.int .i64 x, .int .i64 a, .int .i64 b] w fun e w' => e = .returned (.bool false) ∧ w = w' := by
  have e1 : decide (a ≤ x) = false := by simpa using ha
  go_enter Tryd.func24, Tryd.ntmps24
  go_wp2
  go_ret
  exact ⟨rfl, rfl⟩

theorem l1In_high (x a b : Int) (w : World) (ha : a ≤ x) (hb : b < x) :
    Calls Tryd.prog 24 #[.int .i64 x, .int .i64 a, .int .i64 b] w fun e w' => e = .returned (.bool false) ∧ w = w' := by
  have e1 : decide (a ≤ x) = true := by simpa using ha
  have e2 : decide (x ≤ b) = false := by simpa using hb
  go_enter Tryd.func24, Tryd.ntmps24
  go_wp2
  go_ret
  exact ⟨rfl, rfl⟩

theorem l1In_no (x a b : Int) (w : World) (h : x < a ∨ b < x) :
    Calls Tryd.prog 24 #[.int .i64 x, .int .i64 a, .int .i64 b] w fun e w' => e = .returned (.bool false) ∧ w = w' := by
  by_cases ha : x < a
  · exact l1In_low x a b w ha
  · exact l1In_high x a b w (by omega) (by omega)

/-- The number is written. -/
theorem specFormat_yes (n : Int) (w : World) (h0 : -999999 ≤ n) (h1 : n ≤ 999999) :
    Calls Tryd.prog 11 #[.int .i64 n] w fun e w' => e = .returned (.tuple #[.string ⟨(Lib.itoa n).toArray⟩, .bool true]) ∧ ∃ q, w' = w.drewN q := by
  have hc := Lib.hid (fun w => l1Num_any n w (by omega) (by omega))
  have hi := Lib.hid (fun w => l1In_yes n (-999999) 999999 w h0 h1)
  go_enter Tryd.func11, Tryd.ntmps11
  go_wp2_with fail
  refine (hi.out _).mono ?_
  rintro e w' ⟨rfl, rfl⟩
  go_wp2_with fail
  refine (hc.out _).mono ?_
  rintro e w' ⟨rfl, q, rfl⟩
  go_wp2_with fail
  go_ret2
  exact ⟨rfl, _, rfl⟩

theorem specFormat_no (n : Int) (w : World) (h : n < -999999 ∨ 999999 < n) :
    Calls Tryd.prog 11 #[.int .i64 n] w fun e w' => e = .returned (.tuple #[.string ⟨#[]⟩, .bool false]) ∧ w = w' := by
  have hi := Lib.hid (fun w => l1In_no n (-999999) 999999 w h)
  go_enter Tryd.func11, Tryd.ntmps11
  go_wp2_with fail
  refine (hi.out _).mono ?_
  rintro e w' ⟨rfl, rfl⟩
  go_wp2_with fail
  go_ret2
  exact ⟨rfl, rfl⟩

theorem implFormat_yes (n : Int) (w : World) (h0 : -999999 ≤ n) (h1 : n ≤ 999999) (htab : Lib.TabIs Tryd.prog w "internal/strconv.uint64pow10" .u64 Lib.pow10Tab) :
    Calls Tryd.prog 10 #[.int .i64 n] w fun e w' => e = .returned (.tuple #[.string ⟨(Lib.itoa n).toArray⟩, .bool true]) ∧ Below w.heap.size w w' := by
  have hc := Lib.hid (Tryd.strconv_Itoa n (by omega) (by omega) w htab)
  have e1 : decide (n < -999999) = false := by simpa using h0
  have e2 : decide (999999 < n) = false := by simpa using h1
  clear htab
  go_enter Tryd.func10, Tryd.ntmps10
  go_wp2_with fail
  refine hc.out.mono ?_
  rintro e w' ⟨rfl, q, os, rfl⟩
  go_wp2_with fail
  go_ret2
  exact ⟨rfl, Lib.below_grow _ _ (Nat.le_refl _) _ _⟩

theorem implFormat_low (n : Int) (w : World) (h : n < -999999) :
    Calls Tryd.prog 10 #[.int .i64 n] w fun e w' => e = .returned (.tuple #[.string ⟨#[]⟩, .bool false]) ∧ w = w' := by
  have e1 : decide (n < -999999) = true := by simpa using h
  go_enter Tryd.func10, Tryd.ntmps10
  go_wp2_with fail
  go_ret2
  exact ⟨rfl, rfl⟩

theorem implFormat_high (n : Int) (w : World) (h0 : -999999 ≤ n) (h : 999999 < n) :
    Calls Tryd.prog 10 #[.int .i64 n] w fun e w' => e = .returned (.tuple #[.string ⟨#[]⟩, .bool false]) ∧ w = w' := by
  have e1 : decide (n < -999999) = false := by simpa using h0
  have e2 : decide (999999 < n) = true := by simpa using h
  go_enter Tryd.func10, Tryd.ntmps10
  go_wp2_with fail
  go_ret2
  exact ⟨rfl, rfl⟩

theorem implFormat_no (n : Int) (w : World) (h : n < -999999 ∨ 999999 < n) :
    Calls Tryd.prog 10 #[.int .i64 n] w fun e w' => e = .returned (.tuple #[.string ⟨#[]⟩, .bool false]) ∧ w = w' := by
  by_cases ha : n < -999999
  · exact implFormat_low n w ha
  · exact implFormat_high n w (by omega) (by omega)

end FormatW
end Go.Proofs.YthmeagmabidniaaDoor
